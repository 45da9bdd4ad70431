/-
  Contracts of the functions that the statement calls, part 7 of 26 (merged texts: Bu, Bv, Bw, Bx, By, Bz, Ca, Ib). Conditions: as the head of each part says.
-/
import Derived.Test.YtbldnhpbmfmepaaDoorGF
import Derived.Lib.BitFns

/-
  Contract of the walk over math/bits.OnesCount16. Conditions: none.
-/
namespace Go.Proofs.YtbldnhpbmfmepaaDoor
set_option linter.unusedVariables false
set_option linter.unusedSimpArgs false
open Go.RowKit

/-- How many of the k bits from b on a head has. -/
def cnt (f : Nat → Bool) (b : Nat) : Nat → Nat
  | 0 => 0
  | k + 1 => cnt f b k + (f (b + k)).toNat
theorem cnt_le (f : Nat → Bool) (b : Nat) : ∀ k, cnt f b k ≤ k
  | 0 => Nat.le_refl _
  | k + 1 => by
    have := cnt_le f b k
    have := Bool.toNat_le (f (b + k))
    unfold cnt; omega
theorem cnt_add (f : Nat → Bool) (b k : Nat) : ∀ m, cnt f b (k + m) = cnt f b k + cnt f (b + k) m
  | 0 => rfl
  | m + 1 => by
    have h1 : cnt f b (k + (m + 1)) = cnt f b (k + m) + (f (b + (k + m))).toNat := rfl
    have h2 : cnt f (b + k) (m + 1) = cnt f (b + k) m + (f (b + k + m)).toNat := rfl
    rw [h1, h2, cnt_add f b k m, Nat.add_assoc b k m]; omega
theorem pop_zero : ∀ fuel, Lib.popAux fuel 0 = 0
  | 0 => rfl
  | k + 1 => by unfold Lib.popAux; rw [show 0 / 2 = 0 from rfl, pop_zero k]
theorem pop_word (f : Nat → Bool) (b : Nat) : ∀ k fuel, k ≤ fuel → Lib.popAux fuel (wordB f b k) = cnt f b k
  | 0, fuel, _ => pop_zero fuel
  | k + 1, 0, h => absurd h (by omega)
  | k + 1, fuel + 1, h => by
    have hc := Bool.toNat_le (f (b + k))
    have e1 : (2 * wordB f b k + (f (b + k)).toNat) % 2 = (f (b + k)).toNat := by omega
    have e2 : (2 * wordB f b k + (f (b + k)).toNat) / 2 = wordB f b k := by omega
    unfold wordB Lib.popAux cnt
    rw [e1, e2, pop_word f b k fuel (by omega)]; omega
theorem count_word (f : Nat → Bool) (w : Nat) : Lib.onesCount (word f w / 256) + Lib.onesCount (word f w % 256) = cnt f (16 * w) 16 := by
  have h := wordB_add f (16 * w) 8 8
  have h1 := wordB_lt f (16 * w + 8) 8
  have h2 : word f w = wordB f (16 * w) 8 * 256 + wordB f (16 * w + 8) 8 := h
  have e1 : word f w / 256 = wordB f (16 * w) 8 := by omega
  have e2 : word f w % 256 = wordB f (16 * w + 8) 8 := by omega
  rw [e1, e2]
  unfold Lib.onesCount
  rw [pop_word f _ 8 64 (by omega), pop_word f _ 8 64 (by omega)]
  exact (cnt_add f (16 * w) 8 8).symm
theorem pop_at (u : Nat) (h : u < 256) (a : UInt8) (ea : Lib.pop8tab[u]'(by rw [Lib.pop8tab_size]; exact h) = a) : (a.toNat : Int) = (Lib.onesCount u : Int) := by
  have e := Lib.pop8_eq ⟨u, h⟩
  unfold Lib.pop8 at e
  rw [Int.toNat_natCast] at e
  have hh : u < Lib.pop8tab.size := by rw [Lib.pop8tab_size]; exact h
  rw [getElem?_pos Lib.pop8tab u hh, Option.getD_some, ea] at e
  exact e
set_option maxRecDepth 100000 in
set_option maxHeartbeats 1600000 in
theorem ones16_any (n : Nat) (w : World) (hn : n < 65536) :
    Calls Tryd.prog 107 #[.int .u16 (n : Int)] w (Reads (.int .i64 ((Lib.onesCount (n / 256) + Lib.onesCount (n % 256) : Nat) : Int)) w) := by
  have h0 : (0 : Int) ≤ (n : Int) := by omega
  have h1 : (n : Int) < 65536 := by omega
  obtain ⟨u, hu⟩ : ∃ u, n / 256 = u := ⟨_, rfl⟩
  obtain ⟨v, hv⟩ : ∃ v, n % 256 = v := ⟨_, rfl⟩
  have hu8 : u < 256 := by omega
  have hv8 : v < 256 := by omega
  have ha : bits BinOp.and IntKind.u16 (n : Int) 255 = (v : Int) := by
    show IntKind.u16.wrap (((BitVec.ofInt 16 (n : Int) &&& BitVec.ofInt 16 255).toNat : Nat) : Int) = _
    have e : (BitVec.ofInt 16 255).toNat = 2 ^ 8 - 1 := by decide
    rw [BitVec.toNat_and, e, Nat.and_two_pow_sub_one_eq_mod, BitVec.toNat_ofInt, IntKind.wrap_u16]
    omega
  have hs : (n : Int) / 256 = (u : Int) := by omega
  have u0 : (0 : Int) ≤ (u : Int) := by omega
  have u1 : (u : Int) < 256 := by omega
  have v0 : (0 : Int) ≤ (v : Int) := by omega
  have v1 : (v : Int) < 256 := by omega
  have ut : (u : Int).toNat = u := Int.toNat_natCast u
  have vt : (v : Int).toNat = v := Int.toNat_natCast v
  rw [hu, hv]
  clear hu hv
  have hsz := Lib.pop8tab_size
  obtain ⟨a, ea⟩ : ∃ a : UInt8, Lib.pop8tab[u]'(by rw [hsz]; exact hu8) = a := ⟨_, rfl⟩
  obtain ⟨b, eb⟩ : ∃ b : UInt8, Lib.pop8tab[v]'(by rw [hsz]; exact hv8) = b := ⟨_, rfl⟩
  have pa := pop_at u hu8 a ea
  have pb := pop_at v hv8 b eb
  have EA : ∀ h : u < Lib.pop8tab.size, Lib.pop8tab[u]'h = a := fun _ => ea
  have EB : ∀ h : v < Lib.pop8tab.size, Lib.pop8tab[v]'h = b := fun _ => eb
  have la := Lib.onesCount_le8 ⟨u, hu8⟩
  have lb := Lib.onesCount_le8 ⟨v, hv8⟩
  have PA := Lib.hid pa
  have PB := Lib.hid pb
  have LA : Lib.onesCount u ≤ 8 := la
  have LB : Lib.onesCount v ≤ 8 := lb
  clear ea eb pa pb la lb
  go_enter Tryd.func107, Tryd.ntmps107
  go_wp2
  go_quiet (fail)
  have e : ((a.toNat : Int) + (b.toNat : Int)) % 256 = ((Lib.onesCount u + Lib.onesCount v : Nat) : Int) := by rw [PA.out, PB.out]; omega
  rw [e]
  clear EA EB hsz
  go_wp2
  go_ret
  exact ⟨rfl, nq, rfl⟩
/-- What one word adds. -/
structure CntF (f : Nat → Bool) (k x c0 c1 : Nat) : Prop where
  one : Lib.onesCount (x / 256) + Lib.onesCount (x % 256) = c1
  all : cnt f 0 (16 * (k + 1)) = c0 + c1
def CountRel (f : Nat → Bool) (ga : Nat) (w : World) (n i : Value) (wr : World) : Prop :=
  ∃ k : Nat, k ≤ 10 ∧ i = .int .i64 k ∧ n = .int .i64 (cnt f 0 (16 * k) : Int) ∧ Blk wr ga 23 (H f) ∧ Below w.heap.size w wr
set_option maxRecDepth 1000000 in
set_option maxHeartbeats 1600000 in
theorem count_any (f : Nat → Bool) (w : World) :
    Calls Tryd.prog 80 #[.agg (H f).toArray] w fun e w' => e = .returned (.int .i64 (cnt f 0 160 : Int)) ∧ Below w.heap.size w w' := by
  go_enter Tryd.func80, Tryd.ntmps80
  go_wp2_with (with_reducible refine wpList_box (o := ⟨some 1, .box 23 (.tmp 0), _, _, _, _⟩) ?g1 23 (.tmp 0) ?o1 (.agg (H f).toArray) (H f) ?x1 ?c1 ?_)
  try (case g1 => rfl)
  try (case o1 => rfl)
  try (case x1 => rfl)
  try (case c1 => rfl)
  intro ga w1 hga hs1 hb1 hA1
  have hbel : Below w.heap.size w w1 := hb1.mono (Nat.le_of_eq hga.out.symm)
  clear hb1 hga hs1
  go_wp2_with (with_reducible refine wpList_get (o := ⟨some 6, .load 23 (.tmp 1), _, _, _, _⟩) (by with_unfolding_all rfl) 23 (.tmp 1) (by with_unfolding_all rfl) ga 0 (by with_unfolding_all rfl) hA1 (H f) (cs_all _) _ (by exact Tryd.underlying23) (by with_unfolding_all rfl) (by rw [H_length]; exact Tryd.szH) ?_)
  go_wp2
  go_loopw [3, 7] (CountRel f ga w) (fun _ i _ => 10 - (intOf i).toNat)
  case atStart => exact ⟨0, by omega, rfl, rfl, hA1, hbel⟩
  case round =>
    clear hA1 hbel
    obtain ⟨k, hk, rfl, rfl, hA, hbel⟩ := hrel
    have hcl := cnt_le f 0 (16 * k)
    by_cases hlt : k < 10
    · obtain ⟨x, hx⟩ : ∃ x, Hid (word f k = x) := ⟨_, rfl⟩
      obtain ⟨c0, hc0⟩ : ∃ c, Hid (cnt f 0 (16 * k) = c) := ⟨_, rfl⟩
      obtain ⟨c1, hc1⟩ : ∃ c, Hid (cnt f (16 * k) 16 = c) := ⟨_, rfl⟩
      have hwl := word_lt f k
      have hcw := count_word f k
      have hca := cnt_add f 0 (16 * k) 16
      have hc2 := cnt_le f (16 * k) 16
      have hHk := H_get f hlt
      rw [Nat.zero_add] at hca
      rw [hc0.out] at hcl hca ⊢
      rw [hc1.out] at hcw hca hc2
      rw [hx.out] at hwl hcw hHk
      have HHk := Lib.hid hHk
      have HC : CntF f k x c0 c1 := ⟨hcw, by rw [show 16 * (k + 1) = 16 * k + 16 by omega]; exact hca⟩
      clear hHk hcw hca hx hc0 hc1
      have hx0 : (0 : Int) ≤ (x : Int) := by omega
      have hx1 : (x : Int) < 65536 := by omega
      have HWL := Lib.hid hwl
      have HCL := Lib.hid hcl
      have HC2 := Lib.hid hc2
      clear hwl hcl hc2
      go_wp2_with (with_reducible refine wpList_idx (o := ⟨some 9, .index 23 (.tmp 6) (.tmp 7), _, _, _, _⟩) (by with_unfolding_all rfl) 23 (.tmp 6) (.tmp 7) (by with_unfolding_all rfl) 3 10 k (H f) (.int .i64 (x : Int)) (.int .i64) (by with_unfolding_all rfl) (by with_unfolding_all rfl) (by with_unfolding_all exact Tryd.underlying23) (by with_unfolding_all exact Tryd.szI) (by with_unfolding_all exact Tryd.underlying3) (by with_unfolding_all rfl) hlt HHk.out ?_)
      (with_reducible refine (ones16_any x _ HWL.out).mono ?_)
      rintro e w2 ⟨rfl, n, rfl⟩
      rw [HC.one]
      have hA2 := hA.drewN n
      have hb2 := hbel.trans ((below_drewN wr n).mono hbel.size)
      clear hA hbel
      generalize wr.drewN n = w2 at hA2 hb2 ⊢
      have k1 : c0 ≤ 160 := by have := HCL.out; omega
      have k2 := HC2.out
      go_wp2
      go_roundw
      case rel => exact ⟨k + 1, by omega, by go_num, by rw [HC.all]; go_num, hA2, hb2⟩
      case measure => simp [intOf]; omega
    · obtain rfl : k = 10 := by omega
      go_wp2
      go_ret
      exact ⟨rfl, hbel⟩
end Go.Proofs.YtbldnhpbmfmepaaDoor

/-
  Contracts of the walks over Then, Image and Back: two halves made by two calls. Conditions: none.
-/
namespace Go.Proofs.YtbldnhpbmfmepaaDoor
set_option linter.unusedVariables false
set_option linter.unusedSimpArgs false
open Go.RowKit

theorem at_all {w : World} {g : Nat} {t : TypeId} {p : Pat} (h : Blk w g t p.cells) : w.rangeAt g 0 p.cells := fun j v hv => by
  rw [Nat.zero_add]; exact h.cell hv
/-- The mod that does m, and then n; what a mod makes of a pattern. -/
def Pat.then (p q : Pat) : Pat := ⟨fun i => p.m i || q.m i, q.app p.b⟩
def Pat.image (p q : Pat) : Pat := ⟨fun i => p.m i || q.m i, q.app p.b⟩
set_option maxRecDepth 100000 in
set_option maxHeartbeats 1600000 in
theorem then_any (p q : Pat) (w : World) :
    Calls Tryd.prog 48 #[.agg p.cells.toArray, .agg q.cells.toArray] w fun e w' => e = .returned (.agg (p.then q).cells.toArray) ∧ Below w.heap.size w w' := by
  obtain ⟨X, hX⟩ : ∃ X, Hid (p.then q = X) := ⟨_, rfl⟩
  rw [hX.out]
  go_enter Tryd.func48, Tryd.ntmps48
  go_wp2_with (with_reducible refine wpList_box (o := ⟨some 2, .box 43 (.tmp 0), _, _, _, _⟩) ?g1 43 (.tmp 0) ?o1 (.agg p.cells.toArray) p.cells ?x1 ?c1 ?_)
  try (case g1 => rfl)
  try (case o1 => rfl)
  try (case x1 => rfl)
  try (case c1 => rfl)
  intro gp w1 hgp hs1 hb1 hP1
  go_wp2_with (with_reducible refine wpList_box (o := ⟨some 3, .box 43 (.tmp 1), _, _, _, _⟩) ?g2 43 (.tmp 1) ?o2 (.agg q.cells.toArray) q.cells ?x2 ?c2 ?_)
  try (case g2 => rfl)
  try (case o2 => rfl)
  try (case x2 => rfl)
  try (case c2 => rfl)
  intro gq w2 hgq hs2 hb2 hQ2
  go_wp2_with (with_reducible refine wpList_alloc (o := ⟨some 4, .alloc 43, _, _, _, _⟩) (by with_unfolding_all rfl) 43 (by with_unfolding_all rfl) (.agg (H no ++ H no).toArray) (H no ++ H no) (by exact Tryd.zeroMd) (by with_unfolding_all rfl) ?_)
  intro gr w3 hgr hs3 hb3 hR4
  rw [cells_zero] at hR4
  have hle : w.heap.size ≤ gp := Nat.le_of_eq hgp.out.symm
  have hab : gp < gq := by have := hgp.out; have := hs1.out; have := hgq.out; omega
  have hbr : gq < gr := by have := hgq.out; have := hs2.out; have := hgr.out; omega
  have hP4 := (hP1.next hb2 hab).next hb3 (by omega)
  have hQ4 := hQ2.next hb3 hbr
  have hb4 := ((hb1.mono hle).trans (hb2.mono (by omega))).trans (hb3.mono (by omega : w.heap.size ≤ gr))
  clear hgp hs1 hb1 hP1 hgq hs2 hb2 hQ2 hgr hs3 hb3
  go_wp2
  have hrg : ∀ w', Below w3.heap.size w3 w' → w'.rangeAt gp 0 (H p.m) ∧ w'.rangeAt gp 10 (H p.b) ∧ w'.rangeAt gq 0 (H q.m) ∧ w'.rangeAt gq 0 q.cells := fun w' h => ⟨at_m (hP4.next h hP4.lt), at_b (hP4.next h hP4.lt), at_m (hQ4.next h hQ4.lt), at_all (hQ4.next h hQ4.lt)⟩
  have hun := Tryd.underlying23
  have hunQ := Tryd.underlying43
  have hz1 : (Tryd.prog.info? 23).map (·.size) = some (H p.m).length := by rw [H_length]; exact Tryd.szH
  have hz2 : (Tryd.prog.info? 23).map (·.size) = some (H p.b).length := by rw [H_length]; exact Tryd.szH
  have hz3 : (Tryd.prog.info? 23).map (·.size) = some (H q.m).length := by rw [H_length]; exact Tryd.szH
  have hz4 : (Tryd.prog.info? 43).map (·.size) = some q.cells.length := by rw [Pat.cells_length]; exact Tryd.szM
  have HRG := Lib.hid hrg
  have hdd := below_drew w3
  have hR5 := hR4.next hdd hR4.lt
  clear hrg
  refine wp_region_held_drew (S := fun w' => w'.rangeAt gp 0 (H p.m) ∧ w'.rangeAt gp 10 (H p.b) ∧ w'.rangeAt gq 0 (H q.m) ∧ w'.rangeAt gq 0 q.cells) (by kernel_rfl) (HRG.out _ hdd) (fun hHeld => ?_)
  generalize w3.drew = wd at hdd hHeld hR5 ⊢
  refine wpAnyH_take (i := 0) (v := ?vv0) rfl (by kernel_rfl) (by kernel_rfl) (by kernel_rfl) (fun _ _ _ h => h) (Or.inl ⟨by rfl, ?yv0⟩) (by assumption) ?rv0
  case yv0 => intro w hSw; (try dsimp only at hSw); go_simp <;> (try with_reducible rfl)
  (try simp only [List.getElem_toArray, List.getElem_cons_zero, Act.put, List.setIfInBounds_toArray, List.set_cons_zero, List.set_cons_succ])
  refine' wpAnyH_take (i := 1) (v := _) rfl (by kernel_rfl) (by kernel_rfl) (by kernel_rfl) (fun _ _ _ h => h) (yieldsIf_load_mid (by rfl) _ _ (by rfl) _ _ (by rfl) _ _ ?Sv1 ?uv1 ?dv1 ?iv1) (by assumption) ?rv1
  case Sv1 => exact (by intro w h; exact h.1)
  case uv1 => exact hun
  case dv1 => rfl
  case iv1 => exact hz1
  (try simp only [List.getElem_toArray, List.getElem_cons_succ, List.getElem_cons_zero, Act.put, List.setIfInBounds_toArray, List.set_cons_zero, List.set_cons_succ])
  refine wpAnyH_take (i := 2) (v := ?vv2) rfl (by kernel_rfl) (by kernel_rfl) (by kernel_rfl) (fun _ _ _ h => h) (Or.inl ⟨by rfl, ?yv2⟩) (by assumption) ?rv2
  case yv2 => intro w hSw; (try dsimp only at hSw); go_simp <;> (try with_reducible rfl)
  (try simp only [List.getElem_toArray, List.getElem_cons_succ, List.getElem_cons_zero, Act.put, List.setIfInBounds_toArray, List.set_cons_zero, List.set_cons_succ])
  refine' wpAnyH_take (i := 3) (v := _) rfl (by kernel_rfl) (by kernel_rfl) (by kernel_rfl) (fun _ _ _ h => h) (yieldsIf_load_mid (by rfl) _ _ (by rfl) _ _ (by rfl) _ _ ?Sv3 ?uv3 ?dv3 ?iv3) (by assumption) ?rv3
  case Sv3 => exact (by intro w h; exact h.2.2.1)
  case uv3 => exact hun
  case dv3 => rfl
  case iv3 => exact hz3
  (try simp only [List.getElem_toArray, List.getElem_cons_succ, List.getElem_cons_zero, Act.put, List.setIfInBounds_toArray, List.set_cons_zero, List.set_cons_succ])
  refine' wpAnyH_take (i := 5) (v := _) rfl (by kernel_rfl) (by kernel_rfl) (by kernel_rfl) (fun _ _ _ h => h) (yieldsIf_load_mid (by rfl) _ _ (by rfl) _ _ (by rfl) _ _ ?Sv5 ?uv5 ?dv5 ?iv5) (by assumption) ?rv5
  case Sv5 => exact (by intro w h; exact h.2.2.2)
  case uv5 => exact hunQ
  case dv5 => rfl
  case iv5 => exact hz4
  (try simp only [List.getElem_toArray, List.getElem_cons_succ, List.getElem_cons_zero, Act.put, List.setIfInBounds_toArray, List.set_cons_zero, List.set_cons_succ])
  refine wpAnyH_take (i := 6) (v := ?vv6) rfl (by kernel_rfl) (by kernel_rfl) (by kernel_rfl) (fun _ _ _ h => h) (Or.inl ⟨by rfl, ?yv6⟩) (by assumption) ?rv6
  case yv6 => intro w hSw; (try dsimp only at hSw); go_simp <;> (try with_reducible rfl)
  (try simp only [List.getElem_toArray, List.getElem_cons_succ, List.getElem_cons_zero, Act.put, List.setIfInBounds_toArray, List.set_cons_zero, List.set_cons_succ])
  refine' wpAnyH_take (i := 7) (v := _) rfl (by kernel_rfl) (by kernel_rfl) (by kernel_rfl) (fun _ _ _ h => h) (yieldsIf_load_mid (by rfl) _ _ (by rfl) _ _ (by rfl) _ _ ?Sv7 ?uv7 ?dv7 ?iv7) (by assumption) ?rv7
  case Sv7 => exact (by intro w h; exact h.2.1)
  case uv7 => exact hun
  case dv7 => rfl
  case iv7 => exact hz2
  (try simp only [List.getElem_toArray, List.getElem_cons_succ, List.getElem_cons_zero, Act.put, List.setIfInBounds_toArray, List.set_cons_zero, List.set_cons_succ])
  refine wpAnyH_ready (rs := [4]) (by kernel_rfl) (by simp) ?_
  refine AllReadyH.cons rfl (fun K hK => ?_) AllReadyH.nil
  go_simp
  go_wp2_with fail
  (with_reducible refine (join_any p.m q.m _).mono ?_)
  rintro e wA ⟨rfl, hbA⟩
  have hkA := below_join hdd hbA
  have hRA := hR5.next hbA hR5.lt
  refine hK.out _ _ (HRG.out _ hkA) (fun hHeld => ?_)
  clear hK K hdd hbA hR5
  refine wpAnyH_ready (rs := [8]) (by kernel_rfl) (by simp) ?_
  refine AllReadyH.cons rfl (fun K hK => ?_) AllReadyH.nil
  go_simp
  go_wp2_with fail
  (with_reducible refine (apply_any q p.b _).mono ?_)
  rintro e wB ⟨rfl, hbB⟩
  have hkB := below_join hkA hbB
  have hRB := hRA.next hbB hRA.lt
  refine hK.out _ _ (HRG.out _ hkB) (fun hHeld => ?_)
  clear hK K hkA hbB hRA
  rw [show (fun i => p.m i || q.m i) = (p.then q).m from rfl, show q.app p.b = (p.then q).b from rfl, hX.out]
  have hbd : ∀ w, (Instr.build 43 #[(0, .agg (H X.m).toArray), (1, .agg (H X.b).toArray)]).run Tryd.prog w = .ok (.agg X.cells.toArray) w := fun w => run_buildM w _ _ (H_length _) (H_length _)
  refine wpAnyH_take (i := 9) (v := .agg X.cells.toArray) rfl (by kernel_rfl) (by kernel_rfl) (by kernel_rfl) (fun _ _ _ h => h) (Or.inl ⟨by rfl, ?yb⟩) (by assumption) ?rb
  case yb =>
    intro w _
    exact run_execBuild (T := 43) (ps := #[(0, .tmp 9), (1, .tmp 13)]) w (by with_unfolding_all rfl) (by with_unfolding_all rfl) hbd
  (try simp only [List.getElem_toArray, List.getElem_cons_succ, List.getElem_cons_zero, Act.put, List.setIfInBounds_toArray, List.set_cons_zero, List.set_cons_succ])
  refine wpAnyH_ready (rs := [10]) (by kernel_rfl) (by simp) ?_
  refine AllReadyH.cons rfl (fun K hK => ?_) AllReadyH.nil
  rw [if_pos (by rfl)]
  refine wp_put 43 (.tmp 4) (.tmp 14) rfl gr 0 rfl (.agg X.cells.toArray) rfl hRB X.cells rfl (by rw [Pat.cells_length]; exact Tryd.szM) (by rw [Pat.cells_length, Pat.cells_length]; omega) (cells_one _) ?_
  intro wC huC hRC
  rw [splice_all _ _ (by rw [Pat.cells_length, Pat.cells_length])] at hRC
  have hPC := (hP4.next hkB hP4.lt).upd huC (by omega)
  have hQC := (hQ4.next hkB hQ4.lt).upd huC (by omega)
  refine hK.out _ _ ⟨at_m hPC, at_b hPC, at_m hQC, at_all hQC⟩ (fun hHeld => ?_)
  clear hK K
  have hbC := (hb4.trans (hkB.mono hb4.size)).trans (huC.below (B := w.heap.size) (by omega))
  refine wpAnyH_done (by kernel_rfl) ?_ _
  go_wp2
  refine bodyPost_ret (results_cell_row rfl _ _ gr _ _ _ _ rfl hRC Tryd.underlying43 rfl (by rw [List.size_toArray, Pat.cells_length]; exact Tryd.szM)) rfl ⟨rfl, hbC⟩
set_option maxRecDepth 100000 in
set_option maxHeartbeats 1600000 in
theorem image_any (p q : Pat) (w : World) :
    Calls Tryd.prog 50 #[.agg p.cells.toArray, .agg q.cells.toArray] w fun e w' => e = .returned (.agg (p.image q).cells.toArray) ∧ Below w.heap.size w w' := by
  obtain ⟨X, hX⟩ : ∃ X, Hid (p.image q = X) := ⟨_, rfl⟩
  rw [hX.out]
  go_enter Tryd.func50, Tryd.ntmps50
  go_wp2_with (with_reducible refine wpList_box (o := ⟨some 2, .box 25 (.tmp 0), _, _, _, _⟩) ?g1 25 (.tmp 0) ?o1 (.agg p.cells.toArray) p.cells ?x1 ?c1 ?_)
  try (case g1 => rfl)
  try (case o1 => rfl)
  try (case x1 => rfl)
  try (case c1 => rfl)
  intro gp w1 hgp hs1 hb1 hP1
  go_wp2_with (with_reducible refine wpList_box (o := ⟨some 3, .box 43 (.tmp 1), _, _, _, _⟩) ?g2 43 (.tmp 1) ?o2 (.agg q.cells.toArray) q.cells ?x2 ?c2 ?_)
  try (case g2 => rfl)
  try (case o2 => rfl)
  try (case x2 => rfl)
  try (case c2 => rfl)
  intro gq w2 hgq hs2 hb2 hQ2
  go_wp2_with (with_reducible refine wpList_alloc (o := ⟨some 4, .alloc 25, _, _, _, _⟩) (by with_unfolding_all rfl) 25 (by with_unfolding_all rfl) (.agg (H no ++ H no).toArray) (H no ++ H no) (by exact Tryd.zeroPt) (by with_unfolding_all rfl) ?_)
  intro gr w3 hgr hs3 hb3 hR4
  rw [cells_zero] at hR4
  have hle : w.heap.size ≤ gp := Nat.le_of_eq hgp.out.symm
  have hab : gp < gq := by have := hgp.out; have := hs1.out; have := hgq.out; omega
  have hbr : gq < gr := by have := hgq.out; have := hs2.out; have := hgr.out; omega
  have hP4 := (hP1.next hb2 hab).next hb3 (by omega)
  have hQ4 := hQ2.next hb3 hbr
  have hb4 := ((hb1.mono hle).trans (hb2.mono (by omega))).trans (hb3.mono (by omega : w.heap.size ≤ gr))
  clear hgp hs1 hb1 hP1 hgq hs2 hb2 hQ2 hgr hs3 hb3
  go_wp2
  have hrg : ∀ w', Below w3.heap.size w3 w' → w'.rangeAt gp 0 (H p.m) ∧ w'.rangeAt gp 10 (H p.b) ∧ w'.rangeAt gq 0 (H q.m) ∧ w'.rangeAt gq 0 q.cells := fun w' h => ⟨at_m (hP4.next h hP4.lt), at_b (hP4.next h hP4.lt), at_m (hQ4.next h hQ4.lt), at_all (hQ4.next h hQ4.lt)⟩
  have hun := Tryd.underlying23
  have hunQ := Tryd.underlying43
  have hz1 : (Tryd.prog.info? 23).map (·.size) = some (H p.m).length := by rw [H_length]; exact Tryd.szH
  have hz2 : (Tryd.prog.info? 23).map (·.size) = some (H p.b).length := by rw [H_length]; exact Tryd.szH
  have hz3 : (Tryd.prog.info? 23).map (·.size) = some (H q.m).length := by rw [H_length]; exact Tryd.szH
  have hz4 : (Tryd.prog.info? 43).map (·.size) = some q.cells.length := by rw [Pat.cells_length]; exact Tryd.szM
  have HRG := Lib.hid hrg
  have hdd := below_drew w3
  have hR5 := hR4.next hdd hR4.lt
  clear hrg
  refine wp_region_held_drew (S := fun w' => w'.rangeAt gp 0 (H p.m) ∧ w'.rangeAt gp 10 (H p.b) ∧ w'.rangeAt gq 0 (H q.m) ∧ w'.rangeAt gq 0 q.cells) (by kernel_rfl) (HRG.out _ hdd) (fun hHeld => ?_)
  generalize w3.drew = wd at hdd hHeld hR5 ⊢
  refine wpAnyH_take (i := 0) (v := ?vv0) rfl (by kernel_rfl) (by kernel_rfl) (by kernel_rfl) (fun _ _ _ h => h) (Or.inl ⟨by rfl, ?yv0⟩) (by assumption) ?rv0
  case yv0 => intro w hSw; (try dsimp only at hSw); go_simp <;> (try with_reducible rfl)
  (try simp only [List.getElem_toArray, List.getElem_cons_zero, Act.put, List.setIfInBounds_toArray, List.set_cons_zero, List.set_cons_succ])
  refine' wpAnyH_take (i := 1) (v := _) rfl (by kernel_rfl) (by kernel_rfl) (by kernel_rfl) (fun _ _ _ h => h) (yieldsIf_load_mid (by rfl) _ _ (by rfl) _ _ (by rfl) _ _ ?Sv1 ?uv1 ?dv1 ?iv1) (by assumption) ?rv1
  case Sv1 => exact (by intro w h; exact h.1)
  case uv1 => exact hun
  case dv1 => rfl
  case iv1 => exact hz1
  (try simp only [List.getElem_toArray, List.getElem_cons_succ, List.getElem_cons_zero, Act.put, List.setIfInBounds_toArray, List.set_cons_zero, List.set_cons_succ])
  refine wpAnyH_take (i := 2) (v := ?vv2) rfl (by kernel_rfl) (by kernel_rfl) (by kernel_rfl) (fun _ _ _ h => h) (Or.inl ⟨by rfl, ?yv2⟩) (by assumption) ?rv2
  case yv2 => intro w hSw; (try dsimp only at hSw); go_simp <;> (try with_reducible rfl)
  (try simp only [List.getElem_toArray, List.getElem_cons_succ, List.getElem_cons_zero, Act.put, List.setIfInBounds_toArray, List.set_cons_zero, List.set_cons_succ])
  refine' wpAnyH_take (i := 3) (v := _) rfl (by kernel_rfl) (by kernel_rfl) (by kernel_rfl) (fun _ _ _ h => h) (yieldsIf_load_mid (by rfl) _ _ (by rfl) _ _ (by rfl) _ _ ?Sv3 ?uv3 ?dv3 ?iv3) (by assumption) ?rv3
  case Sv3 => exact (by intro w h; exact h.2.2.1)
  case uv3 => exact hun
  case dv3 => rfl
  case iv3 => exact hz3
  (try simp only [List.getElem_toArray, List.getElem_cons_succ, List.getElem_cons_zero, Act.put, List.setIfInBounds_toArray, List.set_cons_zero, List.set_cons_succ])
  refine' wpAnyH_take (i := 5) (v := _) rfl (by kernel_rfl) (by kernel_rfl) (by kernel_rfl) (fun _ _ _ h => h) (yieldsIf_load_mid (by rfl) _ _ (by rfl) _ _ (by rfl) _ _ ?Sv5 ?uv5 ?dv5 ?iv5) (by assumption) ?rv5
  case Sv5 => exact (by intro w h; exact h.2.2.2)
  case uv5 => exact hunQ
  case dv5 => rfl
  case iv5 => exact hz4
  (try simp only [List.getElem_toArray, List.getElem_cons_succ, List.getElem_cons_zero, Act.put, List.setIfInBounds_toArray, List.set_cons_zero, List.set_cons_succ])
  refine wpAnyH_take (i := 6) (v := ?vv6) rfl (by kernel_rfl) (by kernel_rfl) (by kernel_rfl) (fun _ _ _ h => h) (Or.inl ⟨by rfl, ?yv6⟩) (by assumption) ?rv6
  case yv6 => intro w hSw; (try dsimp only at hSw); go_simp <;> (try with_reducible rfl)
  (try simp only [List.getElem_toArray, List.getElem_cons_succ, List.getElem_cons_zero, Act.put, List.setIfInBounds_toArray, List.set_cons_zero, List.set_cons_succ])
  refine' wpAnyH_take (i := 7) (v := _) rfl (by kernel_rfl) (by kernel_rfl) (by kernel_rfl) (fun _ _ _ h => h) (yieldsIf_load_mid (by rfl) _ _ (by rfl) _ _ (by rfl) _ _ ?Sv7 ?uv7 ?dv7 ?iv7) (by assumption) ?rv7
  case Sv7 => exact (by intro w h; exact h.2.1)
  case uv7 => exact hun
  case dv7 => rfl
  case iv7 => exact hz2
  (try simp only [List.getElem_toArray, List.getElem_cons_succ, List.getElem_cons_zero, Act.put, List.setIfInBounds_toArray, List.set_cons_zero, List.set_cons_succ])
  refine wpAnyH_ready (rs := [4]) (by kernel_rfl) (by simp) ?_
  refine AllReadyH.cons rfl (fun K hK => ?_) AllReadyH.nil
  go_simp
  go_wp2_with fail
  (with_reducible refine (join_any p.m q.m _).mono ?_)
  rintro e wA ⟨rfl, hbA⟩
  have hkA := below_join hdd hbA
  have hRA := hR5.next hbA hR5.lt
  refine hK.out _ _ (HRG.out _ hkA) (fun hHeld => ?_)
  clear hK K hdd hbA hR5
  refine wpAnyH_ready (rs := [8]) (by kernel_rfl) (by simp) ?_
  refine AllReadyH.cons rfl (fun K hK => ?_) AllReadyH.nil
  go_simp
  go_wp2_with fail
  (with_reducible refine (apply_any q p.b _).mono ?_)
  rintro e wB ⟨rfl, hbB⟩
  have hkB := below_join hkA hbB
  have hRB := hRA.next hbB hRA.lt
  refine hK.out _ _ (HRG.out _ hkB) (fun hHeld => ?_)
  clear hK K hkA hbB hRA
  rw [show (fun i => p.m i || q.m i) = (p.image q).m from rfl, show q.app p.b = (p.image q).b from rfl, hX.out]
  have hbd : ∀ w, (Instr.build 25 #[(0, .agg (H X.m).toArray), (1, .agg (H X.b).toArray)]).run Tryd.prog w = .ok (.agg X.cells.toArray) w := fun w => run_buildP w _ _ (H_length _) (H_length _)
  refine wpAnyH_take (i := 9) (v := .agg X.cells.toArray) rfl (by kernel_rfl) (by kernel_rfl) (by kernel_rfl) (fun _ _ _ h => h) (Or.inl ⟨by rfl, ?yb⟩) (by assumption) ?rb
  case yb =>
    intro w _
    exact run_execBuild (T := 25) (ps := #[(0, .tmp 9), (1, .tmp 13)]) w (by with_unfolding_all rfl) (by with_unfolding_all rfl) hbd
  (try simp only [List.getElem_toArray, List.getElem_cons_succ, List.getElem_cons_zero, Act.put, List.setIfInBounds_toArray, List.set_cons_zero, List.set_cons_succ])
  refine wpAnyH_ready (rs := [10]) (by kernel_rfl) (by simp) ?_
  refine AllReadyH.cons rfl (fun K hK => ?_) AllReadyH.nil
  rw [if_pos (by rfl)]
  refine wp_put 25 (.tmp 4) (.tmp 14) rfl gr 0 rfl (.agg X.cells.toArray) rfl hRB X.cells rfl (by rw [Pat.cells_length]; exact Tryd.szP) (by rw [Pat.cells_length, Pat.cells_length]; omega) (cells_one _) ?_
  intro wC huC hRC
  rw [splice_all _ _ (by rw [Pat.cells_length, Pat.cells_length])] at hRC
  have hPC := (hP4.next hkB hP4.lt).upd huC (by omega)
  have hQC := (hQ4.next hkB hQ4.lt).upd huC (by omega)
  refine hK.out _ _ ⟨at_m hPC, at_b hPC, at_m hQC, at_all hQC⟩ (fun hHeld => ?_)
  clear hK K
  have hbC := (hb4.trans (hkB.mono hb4.size)).trans (huC.below (B := w.heap.size) (by omega))
  refine wpAnyH_done (by kernel_rfl) ?_ _
  go_wp2
  refine bodyPost_ret (results_cell_row rfl _ _ gr _ _ _ _ rfl hRC Tryd.underlying25 rfl (by rw [List.size_toArray, Pat.cells_length]; exact Tryd.szP)) rfl ⟨rfl, hbC⟩
def Pat.back (p q : Pat) : Pat := ⟨fun i => p.m i && !q.m i, fun i => p.b i && !q.m i⟩
def Pat.backV (p q : Pat) : Pat := if p.over q then p.back q else .zero
set_option maxRecDepth 100000 in
set_option maxHeartbeats 1600000 in
theorem back_any (p q : Pat) (w : World) :
    Calls Tryd.prog 44 #[.agg p.cells.toArray, .agg q.cells.toArray] w fun e w' => e = .returned (.tuple #[.agg (p.backV q).cells.toArray, .bool (decide (p.over q))]) ∧ Below w.heap.size w w' := by
  obtain ⟨D, hD⟩ : ∃ D, Hid (decide (p.over q) = D) := ⟨_, rfl⟩
  obtain ⟨X, hX⟩ : ∃ X, Hid (p.backV q = X) := ⟨_, rfl⟩
  rw [hD.out, hX.out]
  have hXv : Hid (if D = true then X = p.back q else X = .zero) := by
    have : if D = true then X = p.back q else X = .zero := by
      rw [← hX.out, ← hD.out]
      unfold Pat.backV
      by_cases h : p.over q
      · rw [if_pos h, if_pos (decide_eq_true h)]
      · rw [if_neg h, if_neg (by rw [decide_eq_false h]; decide)]
    exact this
  go_enter Tryd.func44, Tryd.ntmps44
  go_wp2_with (with_reducible refine wpList_box (o := ⟨some 2, .box 25 (.tmp 0), _, _, _, _⟩) ?g1 25 (.tmp 0) ?o1 (.agg p.cells.toArray) p.cells ?x1 ?c1 ?_)
  try (case g1 => rfl)
  try (case o1 => rfl)
  try (case x1 => rfl)
  try (case c1 => rfl)
  intro gp w1 hgp hs1 hb1 hP1
  go_wp2_with (with_reducible refine wpList_box (o := ⟨some 3, .box 43 (.tmp 1), _, _, _, _⟩) ?g2 43 (.tmp 1) ?o2 (.agg q.cells.toArray) q.cells ?x2 ?c2 ?_)
  try (case g2 => rfl)
  try (case o2 => rfl)
  try (case x2 => rfl)
  try (case c2 => rfl)
  intro gq w2 hgq hs2 hb2 hQ2
  go_wp2_with (with_reducible refine wpList_alloc (o := ⟨some 4, .alloc 25, _, _, _, _⟩) (by with_unfolding_all rfl) 25 (by with_unfolding_all rfl) (.agg (H no ++ H no).toArray) (H no ++ H no) (by exact Tryd.zeroPt) (by with_unfolding_all rfl) ?_)
  intro gr w3 hgr hs3 hb3 hR3
  rw [cells_zero] at hR3
  have hle : w.heap.size ≤ gp := Nat.le_of_eq hgp.out.symm
  have hab : gp < gq := by have := hgp.out; have := hs1.out; have := hgq.out; omega
  have hbr : gq < gr := by have := hgq.out; have := hs2.out; have := hgr.out; omega
  have hP3 := (hP1.next hb2 hab).next hb3 (by omega)
  have hQ3 := hQ2.next hb3 hbr
  have hbel := ((hb1.mono hle).trans (hb2.mono (by omega))).trans (hb3.mono (by omega : w.heap.size ≤ gr))
  clear hgp hs1 hb1 hP1 hgq hs2 hb2 hQ2 hgr hs3 hb3
  go_wp2_with (first | (with_reducible refine wpList_get (o := ⟨some 6, .load 25 (.tmp 2), _, _, _, _⟩) (by with_unfolding_all rfl) 25 (.tmp 2) (by with_unfolding_all rfl) gp 0 (by with_unfolding_all rfl) hP3 p.cells (cs_all _) _ (by exact Tryd.underlying25) (by with_unfolding_all rfl) (by rw [Pat.cells_length]; exact Tryd.szP) ?_) | (with_reducible refine wpList_get (o := ⟨some 7, .load 43 (.tmp 3), _, _, _, _⟩) (by with_unfolding_all rfl) 43 (.tmp 3) (by with_unfolding_all rfl) gq 0 (by with_unfolding_all rfl) hQ3 q.cells (cs_all _) _ (by exact Tryd.underlying43) (by with_unfolding_all rfl) (by rw [Pat.cells_length]; exact Tryd.szM) ?_))
  (with_reducible refine (overlapV_any p q _).mono ?_)
  rintro e w4 ⟨rfl, hb⟩
  rw [hD.out]
  have hP4 := hP3.next hb hP3.lt
  have hQ4 := hQ3.next hb hQ3.lt
  have hR4 := hR3.next hb hR3.lt
  have hb4 := hbel.trans (hb.mono hbel.size)
  clear hP3 hQ3 hR3 hbel hb
  rcases D with _ | _
  · have hXe : Hid (X = .zero) := hXv.out
    clear hXv hX hD hP4 hQ4
    go_wp2_with (first | (with_reducible refine wpList_build (o := ⟨some 10, .build 25 #[], _, _, _, _⟩) (by with_unfolding_all rfl) 25 #[] (by with_unfolding_all rfl) #[] (by with_unfolding_all rfl) (.agg Pat.zero.cells.toArray) (by with_unfolding_all exact fun w => run_buildP0 w) ?_) | (with_reducible refine wpList_put (o := ⟨none, .store 25 (.tmp 4) (.tmp 10), _, _, _, _⟩) (by with_unfolding_all rfl) 25 (.tmp 4) (.tmp 10) (by with_unfolding_all rfl) gr 0 (by with_unfolding_all rfl) (.agg Pat.zero.cells.toArray) (by with_unfolding_all rfl) hR4 Pat.zero.cells (by with_unfolding_all rfl) (by with_unfolding_all (rw [Pat.cells_length]; exact Tryd.szP)) (by with_unfolding_all (rw [Pat.cells_length]; omega)) (by with_unfolding_all (exact cells_one _)) ?_))
    intro w5 hu5 hR5
    rw [splice_all _ _ rfl, ← hXe.out] at hR5
    have hb5 := hb4.trans (hu5.below (B := w.heap.size) (by omega))
    go_wp2
    exact bodyPost_ret (results_cell_two rfl _ _ gr _ _ _ _ _ rfl rfl hR5 Tryd.underlying25 rfl (by rw [List.size_toArray, Pat.cells_length]; exact Tryd.szP)) rfl ⟨rfl, hb5⟩
  · have hXe : Hid (X = p.back q) := hXv.out
    clear hXv hX hD
    go_wp2
    have hrg : ∀ w', Below w4.heap.size w4 w' → w'.rangeAt gp 0 (H p.m) ∧ w'.rangeAt gp 10 (H p.b) ∧ w'.rangeAt gq 0 (H q.m) ∧ w'.rangeAt gq 0 q.cells := fun w' h => ⟨at_m (hP4.next h hP4.lt), at_b (hP4.next h hP4.lt), at_m (hQ4.next h hQ4.lt), at_all (hQ4.next h hQ4.lt)⟩
    have hun := Tryd.underlying23
    have hunQ := Tryd.underlying43
    have hz1 : (Tryd.prog.info? 23).map (·.size) = some (H p.m).length := by rw [H_length]; exact Tryd.szH
    have hz2 : (Tryd.prog.info? 23).map (·.size) = some (H p.b).length := by rw [H_length]; exact Tryd.szH
    have hz3 : (Tryd.prog.info? 23).map (·.size) = some (H q.m).length := by rw [H_length]; exact Tryd.szH
    have hz4 : (Tryd.prog.info? 43).map (·.size) = some q.cells.length := by rw [Pat.cells_length]; exact Tryd.szM
    have HRG := Lib.hid hrg
    have hdd := below_drew w4
    have hR5 := hR4.next hdd hR4.lt
    clear hrg
    refine wp_region_held_drew (S := fun w' => w'.rangeAt gp 0 (H p.m) ∧ w'.rangeAt gp 10 (H p.b) ∧ w'.rangeAt gq 0 (H q.m) ∧ w'.rangeAt gq 0 q.cells) (by kernel_rfl) (HRG.out _ hdd) (fun hHeld => ?_)
    generalize w4.drew = wd at hdd hHeld hR5 ⊢
    refine wpAnyH_take (i := 0) (v := ?vv0) rfl (by kernel_rfl) (by kernel_rfl) (by kernel_rfl) (fun _ _ _ h => h) (Or.inl ⟨by rfl, ?yv0⟩) (by assumption) ?rv0
    case yv0 => intro w hSw; (try dsimp only at hSw); go_simp <;> (try with_reducible rfl)
    (try simp only [List.getElem_toArray, List.getElem_cons_zero, Act.put, List.setIfInBounds_toArray, List.set_cons_zero, List.set_cons_succ])
    refine' wpAnyH_take (i := 1) (v := _) rfl (by kernel_rfl) (by kernel_rfl) (by kernel_rfl) (fun _ _ _ h => h) (yieldsIf_load_mid (by rfl) _ _ (by rfl) _ _ (by rfl) _ _ ?Sv1 ?uv1 ?dv1 ?iv1) (by assumption) ?rv1
    case Sv1 => exact (by intro w h; exact h.1)
    case uv1 => exact hun
    case dv1 => rfl
    case iv1 => exact hz1
    (try simp only [List.getElem_toArray, List.getElem_cons_succ, List.getElem_cons_zero, Act.put, List.setIfInBounds_toArray, List.set_cons_zero, List.set_cons_succ])
    refine wpAnyH_take (i := 2) (v := ?vv2) rfl (by kernel_rfl) (by kernel_rfl) (by kernel_rfl) (fun _ _ _ h => h) (Or.inl ⟨by rfl, ?yv2⟩) (by assumption) ?rv2
    case yv2 => intro w hSw; (try dsimp only at hSw); go_simp <;> (try with_reducible rfl)
    (try simp only [List.getElem_toArray, List.getElem_cons_succ, List.getElem_cons_zero, Act.put, List.setIfInBounds_toArray, List.set_cons_zero, List.set_cons_succ])
    refine' wpAnyH_take (i := 3) (v := _) rfl (by kernel_rfl) (by kernel_rfl) (by kernel_rfl) (fun _ _ _ h => h) (yieldsIf_load_mid (by rfl) _ _ (by rfl) _ _ (by rfl) _ _ ?Sv3 ?uv3 ?dv3 ?iv3) (by assumption) ?rv3
    case Sv3 => exact (by intro w h; exact h.2.2.1)
    case uv3 => exact hun
    case dv3 => rfl
    case iv3 => exact hz3
    (try simp only [List.getElem_toArray, List.getElem_cons_succ, List.getElem_cons_zero, Act.put, List.setIfInBounds_toArray, List.set_cons_zero, List.set_cons_succ])
    refine wpAnyH_take (i := 5) (v := ?vv5) rfl (by kernel_rfl) (by kernel_rfl) (by kernel_rfl) (fun _ _ _ h => h) (Or.inl ⟨by rfl, ?yv5⟩) (by assumption) ?rv5
    case yv5 => intro w hSw; (try dsimp only at hSw); go_simp <;> (try with_reducible rfl)
    (try simp only [List.getElem_toArray, List.getElem_cons_succ, List.getElem_cons_zero, Act.put, List.setIfInBounds_toArray, List.set_cons_zero, List.set_cons_succ])
    refine' wpAnyH_take (i := 6) (v := _) rfl (by kernel_rfl) (by kernel_rfl) (by kernel_rfl) (fun _ _ _ h => h) (yieldsIf_load_mid (by rfl) _ _ (by rfl) _ _ (by rfl) _ _ ?Sv6 ?uv6 ?dv6 ?iv6) (by assumption) ?rv6
    case Sv6 => exact (by intro w h; exact h.2.1)
    case uv6 => exact hun
    case dv6 => rfl
    case iv6 => exact hz2
    (try simp only [List.getElem_toArray, List.getElem_cons_succ, List.getElem_cons_zero, Act.put, List.setIfInBounds_toArray, List.set_cons_zero, List.set_cons_succ])
    refine wpAnyH_take (i := 7) (v := ?vv7) rfl (by kernel_rfl) (by kernel_rfl) (by kernel_rfl) (fun _ _ _ h => h) (Or.inl ⟨by rfl, ?yv7⟩) (by assumption) ?rv7
    case yv7 => intro w hSw; (try dsimp only at hSw); go_simp <;> (try with_reducible rfl)
    (try simp only [List.getElem_toArray, List.getElem_cons_succ, List.getElem_cons_zero, Act.put, List.setIfInBounds_toArray, List.set_cons_zero, List.set_cons_succ])
    refine' wpAnyH_take (i := 8) (v := _) rfl (by kernel_rfl) (by kernel_rfl) (by kernel_rfl) (fun _ _ _ h => h) (yieldsIf_load_mid (by rfl) _ _ (by rfl) _ _ (by rfl) _ _ ?Sw8 ?uw8 ?dw8 ?iw8) (by assumption) ?rw8
    case Sw8 => exact (by intro w h; exact h.2.2.1)
    case uw8 => exact hun
    case dw8 => rfl
    case iw8 => exact hz3
    (try simp only [List.getElem_toArray, List.getElem_cons_succ, List.getElem_cons_zero, Act.put, List.setIfInBounds_toArray, List.set_cons_zero, List.set_cons_succ])
    refine wpAnyH_ready (rs := [4]) (by kernel_rfl) (by simp) ?_
    refine AllReadyH.cons rfl (fun K hK => ?_) AllReadyH.nil
    go_simp
    go_wp2_with fail
    (with_reducible refine (without_any p.m q.m _).mono ?_)
    rintro e wA ⟨rfl, hbA⟩
    have hkA := below_join hdd hbA
    have hRA := hR5.next hbA hR5.lt
    refine hK.out _ _ (HRG.out _ hkA) (fun hHeld => ?_)
    clear hK K hdd hbA hR5
    refine wpAnyH_ready (rs := [9]) (by kernel_rfl) (by simp) ?_
    refine AllReadyH.cons rfl (fun K hK => ?_) AllReadyH.nil
    go_simp
    go_wp2_with fail
    (with_reducible refine (without_any p.b q.m _).mono ?_)
    rintro e wB ⟨rfl, hbB⟩
    have hkB := below_join hkA hbB
    have hRB := hRA.next hbB hRA.lt
    refine hK.out _ _ (HRG.out _ hkB) (fun hHeld => ?_)
    clear hK K hkA hbB hRA
    rw [show (fun i => p.m i && !q.m i) = (p.back q).m from rfl, show (fun i => p.b i && !q.m i) = (p.back q).b from rfl, ← hXe.out]
    have hbd : ∀ w, (Instr.build 25 #[(0, .agg (H X.m).toArray), (1, .agg (H X.b).toArray)]).run Tryd.prog w = .ok (.agg X.cells.toArray) w := fun w => run_buildP w _ _ (H_length _) (H_length _)
    refine wpAnyH_take (i := 10) (v := .agg X.cells.toArray) rfl (by kernel_rfl) (by kernel_rfl) (by kernel_rfl) (fun _ _ _ h => h) (Or.inl ⟨by rfl, ?yb⟩) (by assumption) ?rb
    case yb =>
      intro w _
      exact run_execBuild (T := 25) (ps := #[(0, .tmp 15), (1, .tmp 20)]) w (by with_unfolding_all rfl) (by with_unfolding_all rfl) hbd
    (try simp only [List.getElem_toArray, List.getElem_cons_succ, List.getElem_cons_zero, Act.put, List.setIfInBounds_toArray, List.set_cons_zero, List.set_cons_succ])
    refine wpAnyH_ready (rs := [11]) (by kernel_rfl) (by simp) ?_
    refine AllReadyH.cons rfl (fun K hK => ?_) AllReadyH.nil
    rw [if_pos (by rfl)]
    refine wp_put 25 (.tmp 4) (.tmp 21) rfl gr 0 rfl (.agg X.cells.toArray) rfl hRB X.cells rfl (by rw [Pat.cells_length]; exact Tryd.szP) (by rw [Pat.cells_length, Pat.cells_length]; omega) (cells_one _) ?_
    intro wC huC hRC
    rw [splice_all _ _ (by rw [Pat.cells_length, Pat.cells_length])] at hRC
    have hPC := (hP4.next hkB hP4.lt).upd huC (by omega)
    have hQC := (hQ4.next hkB hQ4.lt).upd huC (by omega)
    refine hK.out _ _ ⟨at_m hPC, at_b hPC, at_m hQC, at_all hQC⟩ (fun hHeld => ?_)
    clear hK K
    have hbC := (hb4.trans (hkB.mono hb4.size)).trans (huC.below (B := w.heap.size) (by omega))
    refine wpAnyH_take (i := 12) (v := ?vv12) rfl (by kernel_rfl) (by kernel_rfl) (by kernel_rfl) (fun _ _ _ h => h) (Or.inl ⟨by rfl, ?yv12⟩) (by assumption) ?rv12
    case yv12 => intro w hSw; (try dsimp only at hSw); go_simp <;> (try with_reducible rfl)
    (try simp only [List.getElem_toArray, List.getElem_cons_succ, List.getElem_cons_zero, Act.put, List.setIfInBounds_toArray, List.set_cons_zero, List.set_cons_succ])
    refine wpAnyH_done (by kernel_rfl) ?_ _
    go_wp2
    exact bodyPost_ret (results_cell_two rfl _ _ gr _ _ _ _ _ rfl rfl hRC Tryd.underlying25 rfl (by rw [List.size_toArray, Pat.cells_length]; exact Tryd.szP)) rfl ⟨rfl, hbC⟩
end Go.Proofs.YtbldnhpbmfmepaaDoor

/-
  Contracts of the walks over Join, Exact, Free, Covers and the tests of right patterns. Conditions: none.
-/
namespace Go.Proofs.YtbldnhpbmfmepaaDoor
set_option linter.unusedVariables false
set_option linter.unusedSimpArgs false
open Go.RowKit

theorem neqH (w : World) (f g : Nat → Bool) : (binOp .neq 23 (.agg (H f).toArray) (.agg (H g).toArray)).run Tryd.prog w = .ok (.bool (!decide (HI f = HI g))) w := by
  rw [H_iV, H_iV]; exact neq_head w _ _ (HI_length _) (HI_length _)
theorem eqlH (w : World) (f g : Nat → Bool) : (binOp .eql 23 (.agg (H f).toArray) (.agg (H g).toArray)).run Tryd.prog w = .ok (.bool (decide (HI f = HI g))) w := by
  rw [H_iV, H_iV]; exact eql_head w _ _ (HI_length _) (HI_length _)
def Pat.odd (p q : Pat) : Nat → Bool := fun i => p.b i != q.b i
def Pat.joins (p q : Pat) : Bool := decide (HI p.m = HI q.m) && decide (cnt (p.odd q) 0 160 = 1)
def Pat.join (p q : Pat) : Pat := ⟨fun i => p.m i && !p.odd q i, fun i => p.b i && !p.odd q i⟩
def Pat.joinV (p q : Pat) : Pat := if p.joins q = true then p.join q else .zero
set_option maxRecDepth 100000 in
set_option maxHeartbeats 1600000 in
theorem join2_any (p q : Pat) (w : World) :
    Calls Tryd.prog 40 #[.agg p.cells.toArray, .agg q.cells.toArray] w fun e w' => e = .returned (.tuple #[.agg (p.joinV q).cells.toArray, .bool (p.joins q)]) ∧ Below w.heap.size w w' := by
  obtain ⟨D1, hD1⟩ : ∃ D, Hid (decide (HI p.m = HI q.m) = D) := ⟨_, rfl⟩
  obtain ⟨N, hN⟩ : ∃ N : Nat, Hid (N = cnt (p.odd q) 0 160) := ⟨_, rfl⟩
  obtain ⟨D, hD⟩ : ∃ D, Hid (p.joins q = D) := ⟨_, rfl⟩
  obtain ⟨X, hX⟩ : ∃ X, Hid (p.joinV q = X) := ⟨_, rfl⟩
  rw [hD.out, hX.out]
  have hXv : Hid (if D = true then X = p.join q else X = .zero) := by
    have : if D = true then X = p.join q else X = .zero := by
      rw [← hX.out, ← hD.out]
      unfold Pat.joinV
      by_cases h : p.joins q = true
      · rw [if_pos h, if_pos h]
      · rw [if_neg h, if_neg h]
    exact this
  have hDv : Hid ((D1 && decide (N = 1)) = D) := by
    have : (D1 && decide (N = 1)) = D := by rw [← hD.out, ← hD1.out, hN.out]; rfl
    exact this
  have hneq : ∀ w, (binOp .neq 23 (.agg (H p.m).toArray) (.agg (H q.m).toArray)).run Tryd.prog w = .ok (.bool (!D1)) w := fun w => by rw [neqH, hD1.out]
  have hgd := Tryd.guardH
  clear hX hD hD1
  go_enter Tryd.func40, Tryd.ntmps40
  go_wp2_with (with_reducible refine wpList_box (o := ⟨some 2, .box 25 (.tmp 0), _, _, _, _⟩) ?g1 25 (.tmp 0) ?o1 (.agg p.cells.toArray) p.cells ?x1 ?c1 ?_)
  try (case g1 => rfl)
  try (case o1 => rfl)
  try (case x1 => rfl)
  try (case c1 => rfl)
  intro gp w1 hgp hs1 hb1 hP1
  go_wp2_with (with_reducible refine wpList_box (o := ⟨some 3, .box 25 (.tmp 1), _, _, _, _⟩) ?g2 25 (.tmp 1) ?o2 (.agg q.cells.toArray) q.cells ?x2 ?c2 ?_)
  try (case g2 => rfl)
  try (case o2 => rfl)
  try (case x2 => rfl)
  try (case c2 => rfl)
  intro gq w2 hgq hs2 hb2 hQ2
  go_wp2_with (with_reducible refine wpList_alloc (o := ⟨some 4, .alloc 25, _, _, _, _⟩) (by with_unfolding_all rfl) 25 (by with_unfolding_all rfl) (.agg (H no ++ H no).toArray) (H no ++ H no) (by exact Tryd.zeroPt) (by with_unfolding_all rfl) ?_)
  intro gr w3 hgr hs3 hb3 hR3
  rw [cells_zero] at hR3
  have hle : w.heap.size ≤ gp := Nat.le_of_eq hgp.out.symm
  have hab : gp < gq := by have := hgp.out; have := hs1.out; have := hgq.out; omega
  have hbr : gq < gr := by have := hgq.out; have := hs2.out; have := hgr.out; omega
  have hP3 := (hP1.next hb2 hab).next hb3 (by omega)
  have hQ3 := hQ2.next hb3 hbr
  have hbel := ((hb1.mono hle).trans (hb2.mono (by omega))).trans (hb3.mono (by omega : w.heap.size ≤ gr))
  clear hgp hs1 hb1 hP1 hgq hs2 hb2 hQ2 hgr hs3 hb3
  go_wp2_with (first | (with_reducible refine wpList_get (o := ⟨some 8, .load 23 (.tmp 7), _, _, _, _⟩) (by with_unfolding_all rfl) 23 (.tmp 7) (by with_unfolding_all rfl) gp 10 (by with_unfolding_all rfl) hP3 (H p.b) (cells_take_b p) _ (by exact Tryd.underlying23) (by with_unfolding_all rfl) (by rw [H_length]; exact Tryd.szH) ?_) | (with_reducible refine wpList_get (o := ⟨some 10, .load 23 (.tmp 9), _, _, _, _⟩) (by with_unfolding_all rfl) 23 (.tmp 9) (by with_unfolding_all rfl) gq 10 (by with_unfolding_all rfl) hQ3 (H q.b) (cells_take_b q) _ (by exact Tryd.underlying23) (by with_unfolding_all rfl) (by rw [H_length]; exact Tryd.szH) ?_))
  (with_reducible refine (differ_any p.b q.b _).mono ?_)
  rintro e w4 ⟨rfl, hb⟩
  have hP4 := hP3.next hb hP3.lt
  have hQ4 := hQ3.next hb hQ3.lt
  have hR4 := hR3.next hb hR3.lt
  have hb4 := hbel.trans (hb.mono hbel.size)
  have grl := hR4.lt
  clear hP3 hQ3 hR3 hbel hb
  obtain ⟨O, hO⟩ : ∃ O, Hid (O = p.odd q) := ⟨_, rfl⟩
  rw [show (fun i => p.b i != q.b i) = p.odd q from rfl, ← hO.out]
  rw [← hO.out] at hN
  go_wp2_with (with_reducible refine wpList_alloc (o := ⟨some 6, .alloc 23, _, _, _, _⟩) (by with_unfolding_all rfl) 23 (by with_unfolding_all rfl) (.agg (H no).toArray) (H no) (by exact Tryd.zeroH) (by with_unfolding_all rfl) ?_)
  intro go w5 hgo hs5 hb5 hO5
  have hleo : w4.heap.size ≤ go := Nat.le_of_eq hgo.out.symm
  have hP5 := hP4.next hb5 (by omega)
  have hQ5 := hQ4.next hb5 (by omega)
  have hR5 := hR4.next hb5 (by omega)
  have hbe5 := hb4.trans (hb5.mono (by have := hb4.size; omega))
  clear hP4 hQ4 hR4 hb4 hb5 hgo hs5
  go_wp2_with (with_reducible refine wpList_put (o := ⟨none, .store 23 (.tmp 6) (.tmp 11), _, _, _, _⟩) (by with_unfolding_all rfl) 23 (.tmp 6) (.tmp 11) (by with_unfolding_all rfl) go 0 (by with_unfolding_all rfl) (.agg (H O).toArray) (by with_unfolding_all rfl) hO5 (H O) (by with_unfolding_all rfl) (by with_unfolding_all (rw [H_length]; exact Tryd.szH)) (by with_unfolding_all (rw [H_length, H_length]; omega)) (by with_unfolding_all (exact H_one O)) ?_)
  intro w6 hu6 hO6
  rw [splice_all _ _ (by rw [H_length, H_length])] at hO6
  have hP6 := hP5.upd hu6 (by omega)
  have hQ6 := hQ5.upd hu6 (by omega)
  have hR6 := hR5.upd hu6 (by omega)
  have hb6 := hbe5.trans (hu6.below (B := w.heap.size) (by omega))
  clear hP5 hQ5 hR5 hbe5 hO5 hu6
  rcases D1 with _ | _
  · obtain rfl : false = D := hDv.out
    have hXe : Hid (X = .zero) := hXv.out
    clear hXv hO6
    go_wp2_with (first | (with_reducible refine wpList_get (o := ⟨some 13, .load 23 (.tmp 12), _, _, _, _⟩) (by with_unfolding_all rfl) 23 (.tmp 12) (by with_unfolding_all rfl) gp 0 (by with_unfolding_all rfl) hP6 (H p.m) (cells_take_m p) _ (by exact Tryd.underlying23) (by with_unfolding_all rfl) (by rw [H_length]; exact Tryd.szH) ?_) | (with_reducible refine wpList_get (o := ⟨some 15, .load 23 (.tmp 14), _, _, _, _⟩) (by with_unfolding_all rfl) 23 (.tmp 14) (by with_unfolding_all rfl) gq 0 (by with_unfolding_all rfl) hQ6 (H q.m) (cells_take_m q) _ (by exact Tryd.underlying23) (by with_unfolding_all rfl) (by rw [H_length]; exact Tryd.szH) ?_) | (with_reducible refine wpList_build (o := ⟨some 22, .build 25 #[], _, _, _, _⟩) (by with_unfolding_all rfl) 25 #[] (by with_unfolding_all rfl) #[] (by with_unfolding_all rfl) (.agg Pat.zero.cells.toArray) (by with_unfolding_all exact fun w => run_buildP0 w) ?_) | (with_reducible refine wpList_put (o := ⟨none, .store 25 (.tmp 4) (.tmp 22), _, _, _, _⟩) (by with_unfolding_all rfl) 25 (.tmp 4) (.tmp 22) (by with_unfolding_all rfl) gr 0 (by with_unfolding_all rfl) (.agg Pat.zero.cells.toArray) (by with_unfolding_all rfl) hR6 Pat.zero.cells (by with_unfolding_all rfl) (by with_unfolding_all (rw [Pat.cells_length]; exact Tryd.szP)) (by with_unfolding_all (rw [Pat.cells_length]; omega)) (by with_unfolding_all (exact cells_one _)) ?_))
    intro w7 hu7 hR7
    rw [splice_all _ _ rfl, ← hXe.out] at hR7
    have hb7 := hb6.trans (hu7.below (B := w.heap.size) (by omega))
    go_wp2
    exact bodyPost_ret (results_cell_two rfl _ _ gr _ _ _ _ _ rfl rfl hR7 Tryd.underlying25 rfl (by rw [List.size_toArray, Pat.cells_length]; exact Tryd.szP)) rfl ⟨rfl, hb7⟩
  · go_wp2_with (first | (with_reducible refine wpList_get (o := ⟨some 13, .load 23 (.tmp 12), _, _, _, _⟩) (by with_unfolding_all rfl) 23 (.tmp 12) (by with_unfolding_all rfl) gp 0 (by with_unfolding_all rfl) hP6 (H p.m) (cells_take_m p) _ (by exact Tryd.underlying23) (by with_unfolding_all rfl) (by rw [H_length]; exact Tryd.szH) ?_) | (with_reducible refine wpList_get (o := ⟨some 15, .load 23 (.tmp 14), _, _, _, _⟩) (by with_unfolding_all rfl) 23 (.tmp 14) (by with_unfolding_all rfl) gq 0 (by with_unfolding_all rfl) hQ6 (H q.m) (cells_take_m q) _ (by exact Tryd.underlying23) (by with_unfolding_all rfl) (by rw [H_length]; exact Tryd.szH) ?_) | (with_reducible refine wpList_getg (o := ⟨some 18, .load 23 (.tmp 6), _, _, _, _⟩) (by with_unfolding_all rfl) 23 (.tmp 6) (by with_unfolding_all rfl) go 0 (by with_unfolding_all rfl) hO6 (H O) (cs_all _) _ (by exact Tryd.underlying23) (by with_unfolding_all rfl) (by rw [H_length]; exact Tryd.szH) ?_))
    (with_reducible refine (count_any O _).mono ?_)
    rintro e w6 ⟨rfl, hbz⟩
    rw [← hN.out]
    replace hP6 := hP6.next hbz hP6.lt
    replace hQ6 := hQ6.next hbz hQ6.lt
    replace hR6 := hR6.next hbz hR6.lt
    replace hO6 := hO6.next hbz hO6.lt
    replace hb6 := hb6.trans (hbz.mono hb6.size)
    clear hbz
    by_cases h1 : N = 1
    · have hne : ((N : Int) != 1) = false := by rw [h1]; rfl
      have hDe := hDv.out
      rw [Bool.true_and, decide_eq_true h1] at hDe
      subst hDe
      have hXe : Hid (X = p.join q) := hXv.out
      clear hXv h1 hDv
      go_wp2
      have hrg : ∀ w', Below w6.heap.size w6 w' → w'.rangeAt gp 0 (H p.m) ∧ w'.rangeAt gp 10 (H p.b) ∧ w'.rangeAt go 0 (H O) := fun w' h => ⟨at_m (hP6.next h hP6.lt), at_b (hP6.next h hP6.lt), blk_range (hO6.next h hO6.lt)⟩
      have hun := Tryd.underlying23
      have hz1 : (Tryd.prog.info? 23).map (·.size) = some (H p.m).length := by rw [H_length]; exact Tryd.szH
      have hz2 : (Tryd.prog.info? 23).map (·.size) = some (H p.b).length := by rw [H_length]; exact Tryd.szH
      have hz3 : (Tryd.prog.info? 23).map (·.size) = some (H O).length := by rw [H_length]; exact Tryd.szH
      have HRG := Lib.hid hrg
      have hdd := below_drew w6
      have hR7 := hR6.next hdd hR6.lt
      clear hrg
      refine wp_region_held_drew (S := fun w' => w'.rangeAt gp 0 (H p.m) ∧ w'.rangeAt gp 10 (H p.b) ∧ w'.rangeAt go 0 (H O)) (by kernel_rfl) (HRG.out _ hdd) (fun hHeld => ?_)
      generalize w6.drew = wd at hdd hHeld hR7 ⊢
      refine wpAnyH_take (i := 0) (v := ?vv0) rfl (by kernel_rfl) (by kernel_rfl) (by kernel_rfl) (fun _ _ _ h => h) (Or.inl ⟨by rfl, ?yv0⟩) (by assumption) ?rv0
      case yv0 => intro w hSw; (try dsimp only at hSw); go_simp <;> (try with_reducible rfl)
      (try simp only [List.getElem_toArray, List.getElem_cons_zero, Act.put, List.setIfInBounds_toArray, List.set_cons_zero, List.set_cons_succ])
      refine' wpAnyH_take (i := 1) (v := _) rfl (by kernel_rfl) (by kernel_rfl) (by kernel_rfl) (fun _ _ _ h => h) (yieldsIf_load_mid (by rfl) _ _ (by rfl) _ _ (by rfl) _ _ ?Sv1 ?uv1 ?dv1 ?iv1) (by assumption) ?rv1
      case Sv1 => exact (by intro w h; exact h.1)
      case uv1 => exact hun
      case dv1 => rfl
      case iv1 => exact hz1
      (try simp only [List.getElem_toArray, List.getElem_cons_succ, List.getElem_cons_zero, Act.put, List.setIfInBounds_toArray, List.set_cons_zero, List.set_cons_succ])
      refine' wpAnyH_take (i := 2) (v := _) rfl (by kernel_rfl) (by kernel_rfl) (by kernel_rfl) (fun _ _ _ h => h) (yieldsIf_load_mid (by rfl) _ _ (by rfl) _ _ (by rfl) _ _ ?Sv2 ?uv2 ?dv2 ?iv2) (by assumption) ?rv2
      case Sv2 => exact (by intro w h; exact h.2.2)
      case uv2 => exact hun
      case dv2 => rfl
      case iv2 => exact hz3
      (try simp only [List.getElem_toArray, List.getElem_cons_succ, List.getElem_cons_zero, Act.put, List.setIfInBounds_toArray, List.set_cons_zero, List.set_cons_succ])
      refine wpAnyH_take (i := 4) (v := ?vv4) rfl (by kernel_rfl) (by kernel_rfl) (by kernel_rfl) (fun _ _ _ h => h) (Or.inl ⟨by rfl, ?yv4⟩) (by assumption) ?rv4
      case yv4 => intro w hSw; (try dsimp only at hSw); go_simp <;> (try with_reducible rfl)
      (try simp only [List.getElem_toArray, List.getElem_cons_succ, List.getElem_cons_zero, Act.put, List.setIfInBounds_toArray, List.set_cons_zero, List.set_cons_succ])
      refine' wpAnyH_take (i := 5) (v := _) rfl (by kernel_rfl) (by kernel_rfl) (by kernel_rfl) (fun _ _ _ h => h) (yieldsIf_load_mid (by rfl) _ _ (by rfl) _ _ (by rfl) _ _ ?Sv5 ?uv5 ?dv5 ?iv5) (by assumption) ?rv5
      case Sv5 => exact (by intro w h; exact h.2.1)
      case uv5 => exact hun
      case dv5 => rfl
      case iv5 => exact hz2
      (try simp only [List.getElem_toArray, List.getElem_cons_succ, List.getElem_cons_zero, Act.put, List.setIfInBounds_toArray, List.set_cons_zero, List.set_cons_succ])
      refine' wpAnyH_take (i := 6) (v := _) rfl (by kernel_rfl) (by kernel_rfl) (by kernel_rfl) (fun _ _ _ h => h) (yieldsIf_load_mid (by rfl) _ _ (by rfl) _ _ (by rfl) _ _ ?Sv6 ?uv6 ?dv6 ?iv6) (by assumption) ?rv6
      case Sv6 => exact (by intro w h; exact h.2.2)
      case uv6 => exact hun
      case dv6 => rfl
      case iv6 => exact hz3
      (try simp only [List.getElem_toArray, List.getElem_cons_succ, List.getElem_cons_zero, Act.put, List.setIfInBounds_toArray, List.set_cons_zero, List.set_cons_succ])
      refine wpAnyH_ready (rs := [3]) (by kernel_rfl) (by simp) ?_
      refine AllReadyH.cons rfl (fun K hK => ?_) AllReadyH.nil
      go_simp
      go_wp2_with fail
      (with_reducible refine (without_any p.m O _).mono ?_)
      rintro e wA ⟨rfl, hbA⟩
      have hkA := below_join hdd hbA
      have hRA := hR7.next hbA hR7.lt
      refine hK.out _ _ (HRG.out _ hkA) (fun hHeld => ?_)
      clear hK K hdd hbA hR7
      refine wpAnyH_ready (rs := [7]) (by kernel_rfl) (by simp) ?_
      refine AllReadyH.cons rfl (fun K hK => ?_) AllReadyH.nil
      go_simp
      go_wp2_with fail
      (with_reducible refine (without_any p.b O _).mono ?_)
      rintro e wB ⟨rfl, hbB⟩
      have hkB := below_join hkA hbB
      have hRB := hRA.next hbB hRA.lt
      refine hK.out _ _ (HRG.out _ hkB) (fun hHeld => ?_)
      clear hK K hkA hbB hRA
      rw [show (fun i => p.m i && !O i) = (p.join q).m by rw [hO.out]; rfl, show (fun i => p.b i && !O i) = (p.join q).b by rw [hO.out]; rfl, ← hXe.out]
      have hbd : ∀ w, (Instr.build 25 #[(0, .agg (H X.m).toArray), (1, .agg (H X.b).toArray)]).run Tryd.prog w = .ok (.agg X.cells.toArray) w := fun w => run_buildP w _ _ (H_length _) (H_length _)
      refine wpAnyH_take (i := 8) (v := .agg X.cells.toArray) rfl (by kernel_rfl) (by kernel_rfl) (by kernel_rfl) (fun _ _ _ h => h) (Or.inl ⟨by rfl, ?yb⟩) (by assumption) ?rb
      case yb =>
        intro w _
        exact run_execBuild (T := 25) (ps := #[(0, .tmp 26), (1, .tmp 30)]) w (by with_unfolding_all rfl) (by with_unfolding_all rfl) hbd
      (try simp only [List.getElem_toArray, List.getElem_cons_succ, List.getElem_cons_zero, Act.put, List.setIfInBounds_toArray, List.set_cons_zero, List.set_cons_succ])
      refine wpAnyH_ready (rs := [9]) (by kernel_rfl) (by simp) ?_
      refine AllReadyH.cons rfl (fun K hK => ?_) AllReadyH.nil
      rw [if_pos (by rfl)]
      refine wp_put 25 (.tmp 4) (.tmp 31) rfl gr 0 rfl (.agg X.cells.toArray) rfl hRB X.cells rfl (by rw [Pat.cells_length]; exact Tryd.szP) (by rw [Pat.cells_length, Pat.cells_length]; omega) (cells_one _) ?_
      intro wC huC hRC
      rw [splice_all _ _ (by rw [Pat.cells_length, Pat.cells_length])] at hRC
      have hPC := (hP6.next hkB hP6.lt).upd huC (by omega)
      have hOC := (hO6.next hkB hO6.lt).upd huC (by omega)
      refine hK.out _ _ ⟨at_m hPC, at_b hPC, blk_range hOC⟩ (fun hHeld => ?_)
      clear hK K
      have hbC := (hb6.trans (hkB.mono hb6.size)).trans (huC.below (B := w.heap.size) (by omega))
      refine wpAnyH_take (i := 10) (v := ?vv10) rfl (by kernel_rfl) (by kernel_rfl) (by kernel_rfl) (fun _ _ _ h => h) (Or.inl ⟨by rfl, ?yv10⟩) (by assumption) ?rv10
      case yv10 => intro w hSw; (try dsimp only at hSw); go_simp <;> (try with_reducible rfl)
      (try simp only [List.getElem_toArray, List.getElem_cons_succ, List.getElem_cons_zero, Act.put, List.setIfInBounds_toArray, List.set_cons_zero, List.set_cons_succ])
      refine wpAnyH_done (by kernel_rfl) ?_ _
      go_wp2
      exact bodyPost_ret (results_cell_two rfl _ _ gr _ _ _ _ _ rfl rfl hRC Tryd.underlying25 rfl (by rw [List.size_toArray, Pat.cells_length]; exact Tryd.szP)) rfl ⟨rfl, hbC⟩
    · have hne : ((N : Int) != 1) = true := bne_iff_ne.2 (by omega)
      have hDe := hDv.out
      rw [Bool.true_and, decide_eq_false h1] at hDe
      subst hDe
      clear h1 hDv
      have hXe : Hid (X = .zero) := hXv.out
      clear hXv hP6 hQ6 hO6
      go_wp2_with (first | (with_reducible refine wpList_build (o := ⟨some 22, .build 25 #[], _, _, _, _⟩) (by with_unfolding_all rfl) 25 #[] (by with_unfolding_all rfl) #[] (by with_unfolding_all rfl) (.agg Pat.zero.cells.toArray) (by with_unfolding_all exact fun w => run_buildP0 w) ?_) | (with_reducible refine wpList_put (o := ⟨none, .store 25 (.tmp 4) (.tmp 22), _, _, _, _⟩) (by with_unfolding_all rfl) 25 (.tmp 4) (.tmp 22) (by with_unfolding_all rfl) gr 0 (by with_unfolding_all rfl) (.agg Pat.zero.cells.toArray) (by with_unfolding_all rfl) hR6 Pat.zero.cells (by with_unfolding_all rfl) (by with_unfolding_all (rw [Pat.cells_length]; exact Tryd.szP)) (by with_unfolding_all (rw [Pat.cells_length]; omega)) (by with_unfolding_all (exact cells_one _)) ?_))
      intro w7 hu7 hR7
      rw [splice_all _ _ rfl, ← hXe.out] at hR7
      have hb7 := hb6.trans (hu7.below (B := w.heap.size) (by omega))
      go_wp2
      exact bodyPost_ret (results_cell_two rfl _ _ gr _ _ _ _ _ rfl rfl hR7 Tryd.underlying25 rfl (by rw [List.size_toArray, Pat.cells_length]; exact Tryd.szP)) rfl ⟨rfl, hb7⟩
end Go.Proofs.YtbldnhpbmfmepaaDoor

/-
  Contracts of the walks over Covers, rightPair, Right and RightMod. Conditions: none.
-/
namespace Go.Proofs.YtbldnhpbmfmepaaDoor
set_option linter.unusedVariables false
set_option linter.unusedSimpArgs false
open Go.RowKit

def Pat.covers (p q : Pat) : Bool := decide (HI (fun i => p.m i && q.m i) = HI p.m) && decide (HI (fun i => q.b i && p.m i) = HI p.b)
set_option maxRecDepth 100000 in
set_option maxHeartbeats 1600000 in
theorem covers_any (p q : Pat) (w : World) :
    Calls Tryd.prog 36 #[.agg p.cells.toArray, .agg q.cells.toArray] w fun e w' => e = .returned (.bool (p.covers q)) ∧ Below w.heap.size w w' := by
  obtain ⟨F, hF⟩ : ∃ F : Nat → Bool, Hid (F = fun i => p.m i && q.m i) := ⟨_, rfl⟩
  obtain ⟨G, hG⟩ : ∃ G : Nat → Bool, Hid (G = fun i => q.b i && p.m i) := ⟨_, rfl⟩
  obtain ⟨D1, hD1⟩ : ∃ D, Hid (decide (HI F = HI p.m) = D) := ⟨_, rfl⟩
  obtain ⟨D2, hD2⟩ : ∃ D, Hid (decide (HI G = HI p.b) = D) := ⟨_, rfl⟩
  obtain ⟨D, hD⟩ : ∃ D, Hid (p.covers q = D) := ⟨_, rfl⟩
  have hDv : Hid ((D1 && D2) = D) := by
    have : (D1 && D2) = D := by rw [← hD.out, ← hD1.out, ← hD2.out, hF.out, hG.out]; rfl
    exact this
  rw [hD.out]
  have he1 : ∀ w, (binOp .eql 23 (.agg (H F).toArray) (.agg (H p.m).toArray)).run Tryd.prog w = .ok (.bool D1) w := fun w => by rw [eqlH, hD1.out]
  have he2 : ∀ w, (binOp .eql 23 (.agg (H G).toArray) (.agg (H p.b).toArray)).run Tryd.prog w = .ok (.bool D2) w := fun w => by rw [eqlH, hD2.out]
  have hgd := Tryd.guardH
  clear hD hD1 hD2
  go_enter Tryd.func36, Tryd.ntmps36
  go_wp2_with (with_reducible refine wpList_box (o := ⟨some 2, .box 25 (.tmp 0), _, _, _, _⟩) ?g1 25 (.tmp 0) ?o1 (.agg p.cells.toArray) p.cells ?x1 ?c1 ?_)
  try (case g1 => rfl)
  try (case o1 => rfl)
  try (case x1 => rfl)
  try (case c1 => rfl)
  intro gp w1 hgp hs1 hb1 hP1
  go_wp2_with (with_reducible refine wpList_box (o := ⟨some 3, .box 25 (.tmp 1), _, _, _, _⟩) ?g2 25 (.tmp 1) ?o2 (.agg q.cells.toArray) q.cells ?x2 ?c2 ?_)
  try (case g2 => rfl)
  try (case o2 => rfl)
  try (case x2 => rfl)
  try (case c2 => rfl)
  intro gq w2 hgq hs2 hb2 hQ2
  have hle : w.heap.size ≤ gp := Nat.le_of_eq hgp.out.symm
  have hab : gp < gq := by have := hgp.out; have := hs1.out; have := hgq.out; omega
  have hP2 := hP1.next hb2 hab
  have hbel := (hb1.mono hle).trans (hb2.mono (by omega))
  clear hgp hs1 hb1 hP1 hgq hs2 hb2
  go_wp2
  have hrg : ∀ w', Below w2.heap.size w2 w' → Below w2.heap.size w2 w' ∧ w'.rangeAt gp 0 (H p.m) ∧ w'.rangeAt gp 10 (H p.b) ∧ w'.rangeAt gq 0 (H q.m) ∧ w'.rangeAt gq 10 (H q.b) := fun w' h => ⟨h, at_m (hP2.next h hP2.lt), at_b (hP2.next h hP2.lt), at_m (hQ2.next h hQ2.lt), at_b (hQ2.next h hQ2.lt)⟩
  have hun := Tryd.underlying23
  have hz1 : (Tryd.prog.info? 23).map (·.size) = some (H p.m).length := by rw [H_length]; exact Tryd.szH
  have hz2 : (Tryd.prog.info? 23).map (·.size) = some (H p.b).length := by rw [H_length]; exact Tryd.szH
  have hz3 : (Tryd.prog.info? 23).map (·.size) = some (H q.m).length := by rw [H_length]; exact Tryd.szH
  have hz4 : (Tryd.prog.info? 23).map (·.size) = some (H q.b).length := by rw [H_length]; exact Tryd.szH
  have HRG := Lib.hid hrg
  clear hrg
  have hdd := below_drew w2
  refine wp_region_held_drew (S := fun w' => Below w2.heap.size w2 w' ∧ w'.rangeAt gp 0 (H p.m) ∧ w'.rangeAt gp 10 (H p.b) ∧ w'.rangeAt gq 0 (H q.m) ∧ w'.rangeAt gq 10 (H q.b)) (by kernel_rfl) (HRG.out _ hdd) (fun hHeld => ?_)
  generalize w2.drew = wd at hdd hHeld ⊢
  refine wpAnyH_take (i := 0) (v := ?vv0) rfl (by kernel_rfl) (by kernel_rfl) (by kernel_rfl) (fun _ _ _ h => h) (Or.inl ⟨by rfl, ?yv0⟩) (by assumption) ?rv0
  case yv0 => intro w hSw; (try dsimp only at hSw); go_simp <;> (try with_reducible rfl)
  (try simp only [List.getElem_toArray, List.getElem_cons_zero, Act.put, List.setIfInBounds_toArray, List.set_cons_zero, List.set_cons_succ])
  refine' wpAnyH_take (i := 1) (v := _) rfl (by kernel_rfl) (by kernel_rfl) (by kernel_rfl) (fun _ _ _ h => h) (yieldsIf_load_mid (by rfl) _ _ (by rfl) _ _ (by rfl) _ _ ?Sv1 ?uv1 ?dv1 ?iv1) (by assumption) ?rv1
  case Sv1 => exact (by intro w h; exact h.2.1)
  case uv1 => exact hun
  case dv1 => rfl
  case iv1 => exact hz1
  (try simp only [List.getElem_toArray, List.getElem_cons_succ, List.getElem_cons_zero, Act.put, List.setIfInBounds_toArray, List.set_cons_zero, List.set_cons_succ])
  refine wpAnyH_take (i := 2) (v := ?vv2) rfl (by kernel_rfl) (by kernel_rfl) (by kernel_rfl) (fun _ _ _ h => h) (Or.inl ⟨by rfl, ?yv2⟩) (by assumption) ?rv2
  case yv2 => intro w hSw; (try dsimp only at hSw); go_simp <;> (try with_reducible rfl)
  (try simp only [List.getElem_toArray, List.getElem_cons_succ, List.getElem_cons_zero, Act.put, List.setIfInBounds_toArray, List.set_cons_zero, List.set_cons_succ])
  refine' wpAnyH_take (i := 3) (v := _) rfl (by kernel_rfl) (by kernel_rfl) (by kernel_rfl) (fun _ _ _ h => h) (yieldsIf_load_mid (by rfl) _ _ (by rfl) _ _ (by rfl) _ _ ?Sv3 ?uv3 ?dv3 ?iv3) (by assumption) ?rv3
  case Sv3 => exact (by intro w h; exact h.2.2.2.1)
  case uv3 => exact hun
  case dv3 => rfl
  case iv3 => exact hz3
  (try simp only [List.getElem_toArray, List.getElem_cons_succ, List.getElem_cons_zero, Act.put, List.setIfInBounds_toArray, List.set_cons_zero, List.set_cons_succ])
  refine wpAnyH_take (i := 5) (v := ?vv5) rfl (by kernel_rfl) (by kernel_rfl) (by kernel_rfl) (fun _ _ _ h => h) (Or.inl ⟨by rfl, ?yv5⟩) (by assumption) ?rv5
  case yv5 => intro w hSw; (try dsimp only at hSw); go_simp <;> (try with_reducible rfl)
  (try simp only [List.getElem_toArray, List.getElem_cons_succ, List.getElem_cons_zero, Act.put, List.setIfInBounds_toArray, List.set_cons_zero, List.set_cons_succ])
  refine' wpAnyH_take (i := 6) (v := _) rfl (by kernel_rfl) (by kernel_rfl) (by kernel_rfl) (fun _ _ _ h => h) (yieldsIf_load_mid (by rfl) _ _ (by rfl) _ _ (by rfl) _ _ ?Sv6 ?uv6 ?dv6 ?iv6) (by assumption) ?rv6
  case Sv6 => exact (by intro w h; exact h.2.1)
  case uv6 => exact hun
  case dv6 => rfl
  case iv6 => exact hz1
  (try simp only [List.getElem_toArray, List.getElem_cons_succ, List.getElem_cons_zero, Act.put, List.setIfInBounds_toArray, List.set_cons_zero, List.set_cons_succ])
  refine wpAnyH_ready (rs := [4]) (by kernel_rfl) (by simp) ?_
  refine AllReadyH.cons rfl (fun K hK => ?_) AllReadyH.nil
  go_simp
  go_wp2_with fail
  (with_reducible refine (meet_any p.m q.m _).mono ?_)
  rintro e wA ⟨rfl, hbA⟩
  rw [← hF.out]
  have hkA := below_join hdd hbA
  refine hK.out _ _ (HRG.out _ hkA) (fun hHeld => ?_)
  clear hK K hdd hbA
  refine wpAnyH_take (i := 7) (v := ?vv7) rfl (by kernel_rfl) (by kernel_rfl) (by kernel_rfl) (fun _ _ _ h => h) (Or.inl ⟨by rfl, ?yv7⟩) (by assumption) ?rv7
  case yv7 => intro w hSw; (try dsimp only at hSw); go_simp <;> (try with_reducible rfl)
  (try simp only [List.getElem_toArray, List.getElem_cons_succ, List.getElem_cons_zero, Act.put, List.setIfInBounds_toArray, List.set_cons_zero, List.set_cons_succ])
  refine wpAnyH_take (i := 8) (v := ?vv8) rfl (by kernel_rfl) (by kernel_rfl) (by kernel_rfl) (fun _ _ _ h => h) (Or.inl ⟨by rfl, ?yv8⟩) (by assumption) ?rv8
  case yv8 => intro w hSw; (try dsimp only at hSw); go_simp <;> (try with_reducible rfl)
  (try simp only [List.getElem_toArray, List.getElem_cons_succ, List.getElem_cons_zero, Act.put, List.setIfInBounds_toArray, List.set_cons_zero, List.set_cons_succ])
  rcases D1 with _ | _
  · obtain rfl : false = D := hDv.out
    refine wpAnyH_take (i := 9) (v := undef) rfl (by kernel_rfl) (by kernel_rfl) (by kernel_rfl) (fun _ _ _ h => h) (Or.inr ⟨by rfl, rfl⟩) (by assumption) ?rs9
    (try simp only [List.getElem_toArray, List.getElem_cons_succ, List.getElem_cons_zero, Act.put, List.setIfInBounds_toArray, List.set_cons_zero, List.set_cons_succ])
    refine wpAnyH_take (i := 10) (v := undef) rfl (by kernel_rfl) (by kernel_rfl) (by kernel_rfl) (fun _ _ _ h => h) (Or.inr ⟨by rfl, rfl⟩) (by assumption) ?rs10
    (try simp only [List.getElem_toArray, List.getElem_cons_succ, List.getElem_cons_zero, Act.put, List.setIfInBounds_toArray, List.set_cons_zero, List.set_cons_succ])
    refine wpAnyH_take (i := 11) (v := undef) rfl (by kernel_rfl) (by kernel_rfl) (by kernel_rfl) (fun _ _ _ h => h) (Or.inr ⟨by rfl, rfl⟩) (by assumption) ?rs11
    (try simp only [List.getElem_toArray, List.getElem_cons_succ, List.getElem_cons_zero, Act.put, List.setIfInBounds_toArray, List.set_cons_zero, List.set_cons_succ])
    refine wpAnyH_take (i := 12) (v := undef) rfl (by kernel_rfl) (by kernel_rfl) (by kernel_rfl) (fun _ _ _ h => h) (Or.inr ⟨by rfl, rfl⟩) (by assumption) ?rs12
    (try simp only [List.getElem_toArray, List.getElem_cons_succ, List.getElem_cons_zero, Act.put, List.setIfInBounds_toArray, List.set_cons_zero, List.set_cons_succ])
    refine wpAnyH_take (i := 13) (v := undef) rfl (by kernel_rfl) (by kernel_rfl) (by kernel_rfl) (fun _ _ _ h => h) (Or.inr ⟨by rfl, rfl⟩) (by assumption) ?rs13
    (try simp only [List.getElem_toArray, List.getElem_cons_succ, List.getElem_cons_zero, Act.put, List.setIfInBounds_toArray, List.set_cons_zero, List.set_cons_succ])
    refine wpAnyH_take (i := 14) (v := undef) rfl (by kernel_rfl) (by kernel_rfl) (by kernel_rfl) (fun _ _ _ h => h) (Or.inr ⟨by rfl, rfl⟩) (by assumption) ?rs14
    (try simp only [List.getElem_toArray, List.getElem_cons_succ, List.getElem_cons_zero, Act.put, List.setIfInBounds_toArray, List.set_cons_zero, List.set_cons_succ])
    refine wpAnyH_take (i := 15) (v := undef) rfl (by kernel_rfl) (by kernel_rfl) (by kernel_rfl) (fun _ _ _ h => h) (Or.inr ⟨by rfl, rfl⟩) (by assumption) ?rs15
    (try simp only [List.getElem_toArray, List.getElem_cons_succ, List.getElem_cons_zero, Act.put, List.setIfInBounds_toArray, List.set_cons_zero, List.set_cons_succ])
    refine wpAnyH_take (i := 16) (v := undef) rfl (by kernel_rfl) (by kernel_rfl) (by kernel_rfl) (fun _ _ _ h => h) (Or.inr ⟨by rfl, rfl⟩) (by assumption) ?rs16
    (try simp only [List.getElem_toArray, List.getElem_cons_succ, List.getElem_cons_zero, Act.put, List.setIfInBounds_toArray, List.set_cons_zero, List.set_cons_succ])
    refine wpAnyH_take (i := 17) (v := ?vs17) rfl (by kernel_rfl) (by kernel_rfl) (by kernel_rfl) (fun _ _ _ h => h) (Or.inl ⟨by rfl, ?ys17⟩) (by assumption) ?rs17
    case ys17 => intro w hSw; (try dsimp only at hSw); go_simp <;> (try with_reducible rfl)
    (try simp only [List.getElem_toArray, List.getElem_cons_succ, List.getElem_cons_zero, Act.put, List.setIfInBounds_toArray, List.set_cons_zero, List.set_cons_succ])
    refine wpAnyH_take (i := 18) (v := ?vs18) rfl (by kernel_rfl) (by kernel_rfl) (by kernel_rfl) (fun _ _ _ h => h) (Or.inl ⟨by rfl, ?ys18⟩) (by assumption) ?rs18
    case ys18 => intro w hSw; (try dsimp only at hSw); go_simp <;> (try with_reducible rfl)
    (try simp only [List.getElem_toArray, List.getElem_cons_succ, List.getElem_cons_zero, Act.put, List.setIfInBounds_toArray, List.set_cons_zero, List.set_cons_succ])
    refine wpAnyH_done (by kernel_rfl) ?_ _
    have hfin := hbel.trans (hkA.mono hbel.size)
    go_wp2
    go_ret
    exact ⟨rfl, hfin⟩
  · skip
    refine wpAnyH_take (i := 9) (v := ?vt9) rfl (by kernel_rfl) (by kernel_rfl) (by kernel_rfl) (fun _ _ _ h => h) (Or.inl ⟨by rfl, ?yt9⟩) (by assumption) ?rt9
    case yt9 => intro w hSw; (try dsimp only at hSw); go_simp <;> (try with_reducible rfl)
    (try simp only [List.getElem_toArray, List.getElem_cons_succ, List.getElem_cons_zero, Act.put, List.setIfInBounds_toArray, List.set_cons_zero, List.set_cons_succ])
    refine' wpAnyH_take (i := 10) (v := _) rfl (by kernel_rfl) (by kernel_rfl) (by kernel_rfl) (fun _ _ _ h => h) (yieldsIf_load_mid (by rfl) _ _ (by rfl) _ _ (by rfl) _ _ ?St10 ?ut10 ?dt10 ?it10) (by assumption) ?rt10
    case St10 => exact (by intro w h; exact h.2.2.2.2)
    case ut10 => exact hun
    case dt10 => rfl
    case it10 => exact hz4
    (try simp only [List.getElem_toArray, List.getElem_cons_succ, List.getElem_cons_zero, Act.put, List.setIfInBounds_toArray, List.set_cons_zero, List.set_cons_succ])
    refine wpAnyH_take (i := 11) (v := ?vt11) rfl (by kernel_rfl) (by kernel_rfl) (by kernel_rfl) (fun _ _ _ h => h) (Or.inl ⟨by rfl, ?yt11⟩) (by assumption) ?rt11
    case yt11 => intro w hSw; (try dsimp only at hSw); go_simp <;> (try with_reducible rfl)
    (try simp only [List.getElem_toArray, List.getElem_cons_succ, List.getElem_cons_zero, Act.put, List.setIfInBounds_toArray, List.set_cons_zero, List.set_cons_succ])
    refine' wpAnyH_take (i := 12) (v := _) rfl (by kernel_rfl) (by kernel_rfl) (by kernel_rfl) (fun _ _ _ h => h) (yieldsIf_load_mid (by rfl) _ _ (by rfl) _ _ (by rfl) _ _ ?St12 ?ut12 ?dt12 ?it12) (by assumption) ?rt12
    case St12 => exact (by intro w h; exact h.2.1)
    case ut12 => exact hun
    case dt12 => rfl
    case it12 => exact hz1
    (try simp only [List.getElem_toArray, List.getElem_cons_succ, List.getElem_cons_zero, Act.put, List.setIfInBounds_toArray, List.set_cons_zero, List.set_cons_succ])
    refine wpAnyH_take (i := 14) (v := ?vt14) rfl (by kernel_rfl) (by kernel_rfl) (by kernel_rfl) (fun _ _ _ h => h) (Or.inl ⟨by rfl, ?yt14⟩) (by assumption) ?rt14
    case yt14 => intro w hSw; (try dsimp only at hSw); go_simp <;> (try with_reducible rfl)
    (try simp only [List.getElem_toArray, List.getElem_cons_succ, List.getElem_cons_zero, Act.put, List.setIfInBounds_toArray, List.set_cons_zero, List.set_cons_succ])
    refine' wpAnyH_take (i := 15) (v := _) rfl (by kernel_rfl) (by kernel_rfl) (by kernel_rfl) (fun _ _ _ h => h) (yieldsIf_load_mid (by rfl) _ _ (by rfl) _ _ (by rfl) _ _ ?St15 ?ut15 ?dt15 ?it15) (by assumption) ?rt15
    case St15 => exact (by intro w h; exact h.2.2.1)
    case ut15 => exact hun
    case dt15 => rfl
    case it15 => exact hz2
    (try simp only [List.getElem_toArray, List.getElem_cons_succ, List.getElem_cons_zero, Act.put, List.setIfInBounds_toArray, List.set_cons_zero, List.set_cons_succ])
    refine wpAnyH_ready (rs := [13]) (by kernel_rfl) (by simp) ?_
    refine AllReadyH.cons rfl (fun K hK => ?_) AllReadyH.nil
    go_simp
    go_wp2_with fail
    (with_reducible refine (meet_any q.b p.m _).mono ?_)
    rintro e wB ⟨rfl, hbB⟩
    rw [← hG.out]
    have hkB := below_join hkA hbB
    refine hK.out _ _ (HRG.out _ hkB) (fun hHeld => ?_)
    clear hK K hkA hbB
    obtain rfl : D2 = D := hDv.out
    refine wpAnyH_take (i := 16) (v := ?vt16) rfl (by kernel_rfl) (by kernel_rfl) (by kernel_rfl) (fun _ _ _ h => h) (Or.inl ⟨by rfl, ?yt16⟩) (by assumption) ?rt16
    case yt16 => intro w hSw; (try dsimp only at hSw); go_simp <;> (try with_reducible rfl)
    (try simp only [List.getElem_toArray, List.getElem_cons_succ, List.getElem_cons_zero, Act.put, List.setIfInBounds_toArray, List.set_cons_zero, List.set_cons_succ])
    refine wpAnyH_take (i := 17) (v := ?vt17) rfl (by kernel_rfl) (by kernel_rfl) (by kernel_rfl) (fun _ _ _ h => h) (Or.inl ⟨by rfl, ?yt17⟩) (by assumption) ?rt17
    case yt17 => intro w hSw; (try dsimp only at hSw); go_simp <;> (try with_reducible rfl)
    (try simp only [List.getElem_toArray, List.getElem_cons_succ, List.getElem_cons_zero, Act.put, List.setIfInBounds_toArray, List.set_cons_zero, List.set_cons_succ])
    refine wpAnyH_take (i := 18) (v := ?vt18) rfl (by kernel_rfl) (by kernel_rfl) (by kernel_rfl) (fun _ _ _ h => h) (Or.inl ⟨by rfl, ?yt18⟩) (by assumption) ?rt18
    case yt18 => intro w hSw; (try dsimp only at hSw); go_simp <;> (try with_reducible rfl)
    (try simp only [List.getElem_toArray, List.getElem_cons_succ, List.getElem_cons_zero, Act.put, List.setIfInBounds_toArray, List.set_cons_zero, List.set_cons_succ])
    refine wpAnyH_done (by kernel_rfl) ?_ _
    have hfin := hbel.trans (hkB.mono hbel.size)
    go_wp2
    go_ret
    exact ⟨rfl, hfin⟩
end Go.Proofs.YtbldnhpbmfmepaaDoor

/-
  Contracts of the walks over meet at whatever words, rightPair, Right and RightMod. Conditions: none.
-/
namespace Go.Proofs.YtbldnhpbmfmepaaDoor
set_option linter.unusedVariables false
set_option linter.unusedSimpArgs false
open Go.RowKit

/-- The words of both, and-ed. -/
def zipA (l r : List Int) : List Int := List.zipWith (fun a b => bits .and .i64 a b) l r
theorem zipA_length {l r : List Int} (hl : l.length = 10) (hr : r.length = 10) : (zipA l r).length = 10 := by unfold zipA; rw [List.length_zipWith, hl, hr]; rfl
/-- The first k words are and-ed. -/
def zipTo (l r : List Int) (k : Nat) : List Int := (zipA l r).take k ++ l.drop k
theorem zipTo_length {l r : List Int} (hl : l.length = 10) (hr : r.length = 10) {k : Nat} (hk : k ≤ 10) : (zipTo l r k).length = 10 := by
  unfold zipTo
  rw [List.length_append, List.length_take, zipA_length hl hr, List.length_drop, hl]; omega
theorem zipTo_zero (l r : List Int) : zipTo l r 0 = l := by unfold zipTo; simp
theorem zipTo_all {l r : List Int} (hl : l.length = 10) (hr : r.length = 10) : zipTo l r 10 = zipA l r := by
  unfold zipTo
  rw [List.take_of_length_le (by rw [zipA_length hl hr]; exact Nat.le_refl _), List.drop_eq_nil_of_le (by omega), List.append_nil]
theorem zipA_get {l r : List Int} {k : Nat} {a b : Int} (ha : l[k]? = some a) (hb : r[k]? = some b) : (zipA l r)[k]? = some (bits .and .i64 a b) := by
  unfold zipA
  rw [List.getElem?_zipWith, ha, hb]
theorem zipTo_at {l r : List Int} (hl : l.length = 10) (hr : r.length = 10) {k : Nat} (hk : k < 10) : (zipTo l r k)[k]? = l[k]? := by
  unfold zipTo
  have h1 : ((zipA l r).take k).length = k := by rw [List.length_take, zipA_length hl hr]; omega
  rw [List.getElem?_append_right (by omega), h1, Nat.sub_self, List.getElem?_drop, Nat.add_zero]
theorem zipTo_set {l r : List Int} (hl : l.length = 10) (hr : r.length = 10) {k : Nat} (hk : k < 10) {a b : Int} (ha : l[k]? = some a) (hb : r[k]? = some b) : ((zipTo l r k).map iV).set k (iV (bits .and .i64 a b)) = (zipTo l r (k + 1)).map iV := by
  rw [← List.map_set]
  congr 1
  have h1 : ((zipA l r).take k).length = k := by rw [List.length_take, zipA_length hl hr]; omega
  have hz := zipA_get ha hb
  obtain ⟨hk2, he⟩ := List.getElem?_eq_some_iff.1 hz
  unfold zipTo
  rw [List.set_append_right _ _ (by omega), h1, Nat.sub_self, List.take_succ_eq_append_getElem hk2, he, List.append_assoc]
  congr 1
  rw [List.drop_eq_getElem_cons (by omega : k < l.length)]
  rfl
theorem iV_one : ∀ l : List Int, ∀ u ∈ l.map iV, u.oneCell' = true := by
  intro l u hu; simp only [List.mem_map] at hu; obtain ⟨c, _, rfl⟩ := hu; rfl
def MeetI (l r : List Int) (ga gb gr : Nat) (w : World) (i : Value) (wr : World) : Prop :=
  ∃ k : Nat, k ≤ 10 ∧ i = .int .i64 k ∧ Blk wr ga 23 ((zipTo l r k).map iV) ∧ Blk wr gb 23 (r.map iV) ∧ Blk wr gr 23 (H no) ∧ Below w.heap.size w wr
set_option maxRecDepth 100000 in
set_option maxHeartbeats 1600000 in
theorem meetI_any (l r : List Int) (w : World) (hl : l.length = 10) (hr : r.length = 10) :
    Calls Tryd.prog 82 #[.agg (l.map iV).toArray, .agg (r.map iV).toArray] w fun e w' => e = .returned (.agg ((zipA l r).map iV).toArray) ∧ Below w.heap.size w w' := by
  have HL := Lib.hid hl
  have HR := Lib.hid hr
  have hlm : ∀ k, k ≤ 10 → ((zipTo l r k).map iV).length = 10 := fun k hk => by rw [List.length_map]; exact zipTo_length hl hr hk
  have HLM := Lib.hid hlm
  have HZ : Hid (((zipA l r).map iV).length = 10) := by
    have : ((zipA l r).map iV).length = 10 := by rw [List.length_map]; exact zipA_length hl hr
    exact this
  clear hl hr hlm
  go_enter Tryd.func82, Tryd.ntmps82
  go_wp2_with (with_reducible refine wpList_box (o := ⟨some 2, .box 23 (.tmp 0), _, _, _, _⟩) ?g1 23 (.tmp 0) ?o1 (.agg (l.map iV).toArray) (l.map iV) ?x1 ?c1 ?_)
  try (case g1 => rfl)
  try (case o1 => rfl)
  try (case x1 => rfl)
  try (case c1 => rfl)
  intro ga w1 hga hs1 hb1 hA1
  go_wp2_with (with_reducible refine wpList_box (o := ⟨some 3, .box 23 (.tmp 1), _, _, _, _⟩) ?g2 23 (.tmp 1) ?o2 (.agg (r.map iV).toArray) (r.map iV) ?x2 ?c2 ?_)
  try (case g2 => rfl)
  try (case o2 => rfl)
  try (case x2 => rfl)
  try (case c2 => rfl)
  intro gb w2 hgb hs2 hb2 hB2
  go_wp2_with (with_reducible refine wpList_alloc (o := ⟨some 4, .alloc 23, _, _, _, _⟩) (by with_unfolding_all rfl) 23 (by with_unfolding_all rfl) (.agg (H no).toArray) (H no) (by exact Tryd.zeroH) (by with_unfolding_all rfl) ?_)
  intro gr w3 hgr hs3 hb3 hR3
  have hle : w.heap.size ≤ ga := Nat.le_of_eq hga.out.symm
  have hab : ga < gb := by have := hga.out; have := hs1.out; have := hgb.out; omega
  have hbr : gb < gr := by have := hgb.out; have := hs2.out; have := hgr.out; omega
  have hA3 := (hA1.next hb2 hab).next hb3 (by omega)
  have hB3 := hB2.next hb3 hbr
  have hbel := ((hb1.mono hle).trans (hb2.mono (by omega))).trans (hb3.mono (by omega : w.heap.size ≤ gr))
  clear hga hs1 hb1 hA1 hgb hs2 hb2 hB2 hgr hs3 hb3
  go_wp2
  go_loopw [6] (MeetI l r ga gb gr w) (fun i _ => 10 - (intOf i).toNat)
  case atStart => exact ⟨0, by omega, rfl, by rw [zipTo_zero]; exact hA3, hB3, hR3, hbel⟩
  case round =>
    clear hA3 hB3 hR3 hbel
    obtain ⟨k, hk, rfl, hA, hB, hR, hbel⟩ := hrel
    by_cases hlt : k < 10
    · obtain ⟨a, ha⟩ : ∃ a, l[k]? = some a := ⟨_, List.getElem?_eq_getElem (by rw [HL.out]; exact hlt)⟩
      obtain ⟨b, hb⟩ : ∃ b, r[k]? = some b := ⟨_, List.getElem?_eq_getElem (by rw [HR.out]; exact hlt)⟩
      have ca : wr.cell? ⟨ga, k, none⟩ = some (.int .i64 a) := hA.cell (by rw [List.getElem?_map, zipTo_at HL.out HR.out hlt, ha]; rfl)
      have cb : wr.cell? ⟨gb, k, none⟩ = some (.int .i64 b) := hB.cell (by rw [List.getElem?_map, hb]; rfl)
      have HST := Lib.hid (zipTo_set HL.out HR.out hlt ha hb)
      clear ha hb
      obtain ⟨c, hc⟩ : ∃ c, Hid (bits .and .i64 a b = c) := ⟨_, rfl⟩
      go_wp2
      go_still_tail 8, (by kernel_rfl)
      rw [hc.out]
      rw [hc.out] at HST
      have hA' : Blk { wr with drawn := wr.drawn + 1 } ga 23 ((zipTo l r k).map iV) := hA
      have hB' : Blk { wr with drawn := wr.drawn + 1 } gb 23 (r.map iV) := hB
      have hR' : Blk { wr with drawn := wr.drawn + 1 } gr 23 (H no) := hR
      have hb' : Below w.heap.size w { wr with drawn := wr.drawn + 1 } := hbel.trans ((below_drew wr).mono hbel.size)
      clear ca cb hA hB hR hbel
      go_wp2_with (with_reducible refine wpList_put (o := ⟨none, .store 3 (.tmp 16) (.tmp 15), _, _, _, _⟩) (by with_unfolding_all rfl) 3 (.tmp 16) (.tmp 15) (by with_unfolding_all rfl) ga k (by with_unfolding_all rfl) (.int .i64 c) (by with_unfolding_all rfl) hA' [.int .i64 c] (by with_unfolding_all rfl) (by with_unfolding_all (exact Tryd.szI)) (by with_unfolding_all (rw [HLM.out k hk]; exact hlt)) (by with_unfolding_all (exact one_cell1 rfl)) ?_)
      intro w4 hu4 hA4
      have e4 : splice ((zipTo l r k).map iV) k [.int .i64 c] = (zipTo l r (k + 1)).map iV := by rw [splice_set _ _ _ (by rw [HLM.out k hk]; exact hlt)]; exact HST.out
      rw [e4] at hA4
      have hB4 := hB'.upd hu4 (by omega)
      have hR4 := hR'.upd hu4 (by omega)
      have hb4 := hb'.trans (hu4.below (B := w.heap.size) hle)
      clear hA' hB' hR' hb' hu4 e4
      go_wp2
      go_roundw
      case rel => exact ⟨k + 1, by omega, by go_num, hA4, hB4, hR4, hb4⟩
      case measure => simp [intOf]; omega
    · obtain rfl : k = 10 := by omega
      have hA' : Blk wr ga 23 ((zipA l r).map iV) := by rw [zipTo_all HL.out HR.out] at hA; exact hA
      clear hA hk
      go_wp2_with (first | (with_reducible refine wpList_get (o := ⟨some 18, .load 23 (.tmp 2), _, _, _, _⟩) (by with_unfolding_all rfl) 23 (.tmp 2) (by with_unfolding_all rfl) ga 0 (by with_unfolding_all rfl) hA' ((zipA l r).map iV) (cs_all _) _ (by exact Tryd.underlying23) (by with_unfolding_all rfl) (by rw [HZ.out]; exact Tryd.szH) ?_) | (with_reducible refine wpList_put (o := ⟨none, .store 23 (.tmp 4) (.tmp 18), _, _, _, _⟩) (by with_unfolding_all rfl) 23 (.tmp 4) (.tmp 18) (by with_unfolding_all rfl) gr 0 (by with_unfolding_all rfl) (.agg ((zipA l r).map iV).toArray) (by with_unfolding_all rfl) hR ((zipA l r).map iV) (by with_unfolding_all rfl) (by with_unfolding_all (rw [HZ.out]; exact Tryd.szH)) (by with_unfolding_all (rw [HZ.out, H_length]; omega)) (by with_unfolding_all (exact iV_one _)) ?_))
      intro w4 hu4 hR4
      rw [splice_all _ _ (by rw [HZ.out, H_length])] at hR4
      have hb4 := hbel.trans (hu4.below (B := w.heap.size) (by omega))
      go_wp2
      refine bodyPost_ret (results_cell_row rfl _ _ gr _ _ _ _ rfl hR4 Tryd.underlying23 rfl (by rw [List.size_toArray, HZ.out]; exact Tryd.szH)) rfl ⟨rfl, hb4⟩
/-- The words of a right pattern: of its mask, of its bits. -/
def pairI (m b : List Int) : Bool := decide (rightI m) && decide (zipA b m = b)
set_option maxRecDepth 100000 in
set_option maxHeartbeats 1600000 in
theorem rightPair_any (m b : List Int) (w : World) (hm : m.length = 10) (hb : b.length = 10) :
    Calls Tryd.prog 74 #[.agg (m.map iV).toArray, .agg (b.map iV).toArray] w fun e w' => e = .returned (.bool (pairI m b)) ∧ Below w.heap.size w w' := by
  obtain ⟨D1, hD1⟩ : ∃ D, Hid (decide (rightI m) = D) := ⟨_, rfl⟩
  obtain ⟨D2, hD2⟩ : ∃ D, Hid (decide (zipA b m = b) = D) := ⟨_, rfl⟩
  obtain ⟨D, hD⟩ : ∃ D, Hid (pairI m b = D) := ⟨_, rfl⟩
  have hDv : Hid ((D1 && D2) = D) := by
    have : (D1 && D2) = D := by rw [← hD.out, ← hD1.out, ← hD2.out]; rfl
    exact this
  rw [hD.out]
  have he2 : ∀ w, (binOp .eql 23 (.agg ((zipA b m).map iV).toArray) (.agg (b.map iV).toArray)).run Tryd.prog w = .ok (.bool D2) w := fun w => by rw [eql_head w _ _ (zipA_length hb hm) hb, hD2.out]
  have hgd := Tryd.guardH
  have HM := Lib.hid hm
  have HB := Lib.hid hb
  have hz1 : (Tryd.prog.info? 23).map (·.size) = some (m.map iV).length := by rw [List.length_map, hm]; exact Tryd.szH
  have hz2 : (Tryd.prog.info? 23).map (·.size) = some (b.map iV).length := by rw [List.length_map, hb]; exact Tryd.szH
  clear hD hD2 hm hb
  go_enter Tryd.func74, Tryd.ntmps74
  go_wp2_with (with_reducible refine wpList_box (o := ⟨some 2, .box 23 (.tmp 0), _, _, _, _⟩) ?g1 23 (.tmp 0) ?o1 (.agg (m.map iV).toArray) (m.map iV) ?x1 ?c1 ?_)
  try (case g1 => rfl)
  try (case o1 => rfl)
  try (case x1 => rfl)
  try (case c1 => rfl)
  intro gp w1 hgp hs1 hb1 hP1
  go_wp2_with (with_reducible refine wpList_box (o := ⟨some 3, .box 23 (.tmp 1), _, _, _, _⟩) ?g2 23 (.tmp 1) ?o2 (.agg (b.map iV).toArray) (b.map iV) ?x2 ?c2 ?_)
  try (case g2 => rfl)
  try (case o2 => rfl)
  try (case x2 => rfl)
  try (case c2 => rfl)
  intro gq w2 hgq hs2 hb2 hQ2
  have hle : w.heap.size ≤ gp := Nat.le_of_eq hgp.out.symm
  have hab : gp < gq := by have := hgp.out; have := hs1.out; have := hgq.out; omega
  have hP2 := hP1.next hb2 hab
  have hbel := (hb1.mono hle).trans (hb2.mono (by omega))
  clear hgp hs1 hb1 hP1 hgq hs2 hb2
  go_wp2
  have hrg : ∀ w', Below w2.heap.size w2 w' → w'.rangeAt gp 0 (m.map iV) ∧ w'.rangeAt gq 0 (b.map iV) := fun w' h => ⟨blk_range (hP2.next h hP2.lt), blk_range (hQ2.next h hQ2.lt)⟩
  have hun := Tryd.underlying23
  have HRG := Lib.hid hrg
  have hdd := below_drew w2
  clear hrg
  refine wp_region_held_drew (S := fun w' => w'.rangeAt gp 0 (m.map iV) ∧ w'.rangeAt gq 0 (b.map iV)) (by kernel_rfl) (HRG.out _ hdd) (fun hHeld => ?_)
  generalize w2.drew = wd at hdd hHeld ⊢
  refine' wpAnyH_take (i := 0) (v := _) rfl (by kernel_rfl) (by kernel_rfl) (by kernel_rfl) (fun _ _ _ h => h) (yieldsIf_load_mid (by rfl) _ _ (by rfl) _ _ (by rfl) _ _ ?Sv0 ?uv0 ?dv0 ?iv0) (by assumption) ?rv0
  case Sv0 => exact (by intro w h; exact h.1)
  case uv0 => exact hun
  case dv0 => rfl
  case iv0 => exact hz1
  (try simp only [List.getElem_toArray, List.getElem_cons_zero, Act.put, List.setIfInBounds_toArray, List.set_cons_zero, List.set_cons_succ])
  refine wpAnyH_ready (rs := [1]) (by kernel_rfl) (by simp) ?_
  refine AllReadyH.cons rfl (fun K hK => ?_) AllReadyH.nil
  go_simp
  go_wp2_with fail
  (with_reducible refine (rightHead_any m _ HM.out).mono ?_)
  rintro e wA ⟨rfl, hbA⟩
  rw [hD1.out]
  have hkA := below_join hdd hbA
  refine hK.out _ _ (HRG.out _ hkA) (fun hHeld => ?_)
  clear hK K hdd hbA hD1
  refine wpAnyH_take (i := 2) (v := ?vv2) rfl (by kernel_rfl) (by kernel_rfl) (by kernel_rfl) (fun _ _ _ h => h) (Or.inl ⟨by rfl, ?yv2⟩) (by assumption) ?rv2
  case yv2 => intro w hSw; (try dsimp only at hSw); go_simp <;> (try with_reducible rfl)
  (try simp only [List.getElem_toArray, List.getElem_cons_succ, List.getElem_cons_zero, Act.put, List.setIfInBounds_toArray, List.set_cons_zero, List.set_cons_succ])
  rcases D1 with _ | _
  · obtain rfl : false = D := hDv.out
    refine wpAnyH_take (i := 3) (v := undef) rfl (by kernel_rfl) (by kernel_rfl) (by kernel_rfl) (fun _ _ _ h => h) (Or.inr ⟨by rfl, rfl⟩) (by assumption) ?rs3
    (try simp only [List.getElem_toArray, List.getElem_cons_succ, List.getElem_cons_zero, Act.put, List.setIfInBounds_toArray, List.set_cons_zero, List.set_cons_succ])
    refine wpAnyH_take (i := 4) (v := undef) rfl (by kernel_rfl) (by kernel_rfl) (by kernel_rfl) (fun _ _ _ h => h) (Or.inr ⟨by rfl, rfl⟩) (by assumption) ?rs4
    (try simp only [List.getElem_toArray, List.getElem_cons_succ, List.getElem_cons_zero, Act.put, List.setIfInBounds_toArray, List.set_cons_zero, List.set_cons_succ])
    refine wpAnyH_take (i := 5) (v := undef) rfl (by kernel_rfl) (by kernel_rfl) (by kernel_rfl) (fun _ _ _ h => h) (Or.inr ⟨by rfl, rfl⟩) (by assumption) ?rs5
    (try simp only [List.getElem_toArray, List.getElem_cons_succ, List.getElem_cons_zero, Act.put, List.setIfInBounds_toArray, List.set_cons_zero, List.set_cons_succ])
    refine wpAnyH_take (i := 6) (v := undef) rfl (by kernel_rfl) (by kernel_rfl) (by kernel_rfl) (fun _ _ _ h => h) (Or.inr ⟨by rfl, rfl⟩) (by assumption) ?rs6
    (try simp only [List.getElem_toArray, List.getElem_cons_succ, List.getElem_cons_zero, Act.put, List.setIfInBounds_toArray, List.set_cons_zero, List.set_cons_succ])
    refine wpAnyH_take (i := 7) (v := undef) rfl (by kernel_rfl) (by kernel_rfl) (by kernel_rfl) (fun _ _ _ h => h) (Or.inr ⟨by rfl, rfl⟩) (by assumption) ?rs7
    (try simp only [List.getElem_toArray, List.getElem_cons_succ, List.getElem_cons_zero, Act.put, List.setIfInBounds_toArray, List.set_cons_zero, List.set_cons_succ])
    refine wpAnyH_take (i := 8) (v := ?vs8) rfl (by kernel_rfl) (by kernel_rfl) (by kernel_rfl) (fun _ _ _ h => h) (Or.inl ⟨by rfl, ?ys8⟩) (by assumption) ?rs8
    case ys8 => intro w hSw; (try dsimp only at hSw); go_simp <;> (try with_reducible rfl)
    (try simp only [List.getElem_toArray, List.getElem_cons_succ, List.getElem_cons_zero, Act.put, List.setIfInBounds_toArray, List.set_cons_zero, List.set_cons_succ])
    refine wpAnyH_take (i := 9) (v := ?vs9) rfl (by kernel_rfl) (by kernel_rfl) (by kernel_rfl) (fun _ _ _ h => h) (Or.inl ⟨by rfl, ?ys9⟩) (by assumption) ?rs9
    case ys9 => intro w hSw; (try dsimp only at hSw); go_simp <;> (try with_reducible rfl)
    (try simp only [List.getElem_toArray, List.getElem_cons_succ, List.getElem_cons_zero, Act.put, List.setIfInBounds_toArray, List.set_cons_zero, List.set_cons_succ])
    refine wpAnyH_done (by kernel_rfl) ?_ _
    have hfin := hbel.trans (hkA.mono hbel.size)
    go_wp2
    go_ret
    exact ⟨rfl, hfin⟩
  · skip
    refine' wpAnyH_take (i := 3) (v := _) rfl (by kernel_rfl) (by kernel_rfl) (by kernel_rfl) (fun _ _ _ h => h) (yieldsIf_load_mid (by rfl) _ _ (by rfl) _ _ (by rfl) _ _ ?St3 ?ut3 ?dt3 ?it3) (by assumption) ?rt3
    case St3 => exact (by intro w h; exact h.2)
    case ut3 => exact hun
    case dt3 => rfl
    case it3 => exact hz2
    (try simp only [List.getElem_toArray, List.getElem_cons_succ, List.getElem_cons_zero, Act.put, List.setIfInBounds_toArray, List.set_cons_zero, List.set_cons_succ])
    refine' wpAnyH_take (i := 4) (v := _) rfl (by kernel_rfl) (by kernel_rfl) (by kernel_rfl) (fun _ _ _ h => h) (yieldsIf_load_mid (by rfl) _ _ (by rfl) _ _ (by rfl) _ _ ?St4 ?ut4 ?dt4 ?it4) (by assumption) ?rt4
    case St4 => exact (by intro w h; exact h.1)
    case ut4 => exact hun
    case dt4 => rfl
    case it4 => exact hz1
    (try simp only [List.getElem_toArray, List.getElem_cons_succ, List.getElem_cons_zero, Act.put, List.setIfInBounds_toArray, List.set_cons_zero, List.set_cons_succ])
    refine' wpAnyH_take (i := 6) (v := _) rfl (by kernel_rfl) (by kernel_rfl) (by kernel_rfl) (fun _ _ _ h => h) (yieldsIf_load_mid (by rfl) _ _ (by rfl) _ _ (by rfl) _ _ ?St6 ?ut6 ?dt6 ?it6) (by assumption) ?rt6
    case St6 => exact (by intro w h; exact h.2)
    case ut6 => exact hun
    case dt6 => rfl
    case it6 => exact hz2
    (try simp only [List.getElem_toArray, List.getElem_cons_succ, List.getElem_cons_zero, Act.put, List.setIfInBounds_toArray, List.set_cons_zero, List.set_cons_succ])
    refine wpAnyH_ready (rs := [5]) (by kernel_rfl) (by simp) ?_
    refine AllReadyH.cons rfl (fun K hK => ?_) AllReadyH.nil
    go_simp
    go_wp2_with fail
    (with_reducible refine (meetI_any b m _ HB.out HM.out).mono ?_)
    rintro e wB ⟨rfl, hbB⟩
    have hkB := below_join hkA hbB
    refine hK.out _ _ (HRG.out _ hkB) (fun hHeld => ?_)
    clear hK K hkA hbB
    obtain rfl : D2 = D := hDv.out
    refine wpAnyH_take (i := 7) (v := ?vt7) rfl (by kernel_rfl) (by kernel_rfl) (by kernel_rfl) (fun _ _ _ h => h) (Or.inl ⟨by rfl, ?yt7⟩) (by assumption) ?rt7
    case yt7 => intro w hSw; (try dsimp only at hSw); go_simp <;> (try with_reducible rfl)
    (try simp only [List.getElem_toArray, List.getElem_cons_succ, List.getElem_cons_zero, Act.put, List.setIfInBounds_toArray, List.set_cons_zero, List.set_cons_succ])
    refine wpAnyH_take (i := 8) (v := ?vt8) rfl (by kernel_rfl) (by kernel_rfl) (by kernel_rfl) (fun _ _ _ h => h) (Or.inl ⟨by rfl, ?yt8⟩) (by assumption) ?rt8
    case yt8 => intro w hSw; (try dsimp only at hSw); go_simp <;> (try with_reducible rfl)
    (try simp only [List.getElem_toArray, List.getElem_cons_succ, List.getElem_cons_zero, Act.put, List.setIfInBounds_toArray, List.set_cons_zero, List.set_cons_succ])
    refine wpAnyH_take (i := 9) (v := ?vt9) rfl (by kernel_rfl) (by kernel_rfl) (by kernel_rfl) (fun _ _ _ h => h) (Or.inl ⟨by rfl, ?yt9⟩) (by assumption) ?rt9
    case yt9 => intro w hSw; (try dsimp only at hSw); go_simp <;> (try with_reducible rfl)
    (try simp only [List.getElem_toArray, List.getElem_cons_succ, List.getElem_cons_zero, Act.put, List.setIfInBounds_toArray, List.set_cons_zero, List.set_cons_succ])
    refine wpAnyH_done (by kernel_rfl) ?_ _
    have hfin := hbel.trans (hkB.mono hbel.size)
    go_wp2
    go_ret
    exact ⟨rfl, hfin⟩
end Go.Proofs.YtbldnhpbmfmepaaDoor

/-
  Contracts of the walks over Right, RightMod, Exact, Free, Least and Bit. Conditions: none.
-/
namespace Go.Proofs.YtbldnhpbmfmepaaDoor
set_option linter.unusedVariables false
set_option linter.unusedSimpArgs false
open Go.RowKit

set_option maxRecDepth 100000 in
set_option maxHeartbeats 1600000 in
theorem right_any (m b : List Int) (w : World) (hm : m.length = 10) (hb : b.length = 10) :
    Calls Tryd.prog 17 #[.agg (m.map iV ++ b.map iV).toArray] w fun e w' => e = .returned (.bool (pairI m b)) ∧ Below w.heap.size w w' := by
  have HM := Lib.hid hm
  have HB := Lib.hid hb
  have HL : Hid ((m.map iV ++ b.map iV).length = 20) := by
    have : (m.map iV ++ b.map iV).length = 20 := by rw [List.length_append, List.length_map, List.length_map, hm, hb]
    exact this
  have e1 : ((m.map iV ++ b.map iV).drop 0).take (m.map iV).length = m.map iV := by rw [List.drop_zero, List.take_left' rfl]
  have e2 : ((m.map iV ++ b.map iV).drop 10).take (b.map iV).length = b.map iV := by rw [List.drop_left' (by rw [List.length_map]; exact hm), List.take_of_length_le (Nat.le_refl _)]
  have E1 := Lib.hid e1
  have E2 := Lib.hid e2
  have hz1 : (Tryd.prog.info? 23).map (·.size) = some (m.map iV).length := by rw [List.length_map, hm]; exact Tryd.szH
  have hz2 : (Tryd.prog.info? 23).map (·.size) = some (b.map iV).length := by rw [List.length_map, hb]; exact Tryd.szH
  clear hm hb e1 e2
  go_enter Tryd.func17, Tryd.ntmps17
  go_wp2_with (with_reducible refine wpList_box (o := ⟨some 1, .box 25 (.tmp 0), _, _, _, _⟩) ?g1 25 (.tmp 0) ?o1 (.agg (m.map iV ++ b.map iV).toArray) (m.map iV ++ b.map iV) ?x1 ?c1 ?_)
  try (case g1 => rfl)
  try (case o1 => rfl)
  try (case x1 => rfl)
  try (case c1 => rfl)
  intro gp w1 hgp hs1 hb1 hP1
  have hbel : Below w.heap.size w w1 := hb1.mono (Nat.le_of_eq hgp.out.symm)
  clear hgp hs1 hb1
  go_wp2_with (first | (with_reducible refine wpList_get (o := ⟨some 4, .load 23 (.tmp 3), _, _, _, _⟩) (by with_unfolding_all rfl) 23 (.tmp 3) (by with_unfolding_all rfl) gp 0 (by with_unfolding_all rfl) hP1 (m.map iV) E1.out _ (by exact Tryd.underlying23) (by with_unfolding_all rfl) hz1 ?_) | (with_reducible refine wpList_get (o := ⟨some 6, .load 23 (.tmp 5), _, _, _, _⟩) (by with_unfolding_all rfl) 23 (.tmp 5) (by with_unfolding_all rfl) gp 10 (by with_unfolding_all rfl) hP1 (b.map iV) E2.out _ (by exact Tryd.underlying23) (by with_unfolding_all rfl) hz2 ?_))
  (with_reducible refine (rightPair_any m b _ HM.out HB.out).mono ?_)
  rintro e w2 ⟨rfl, hb2⟩
  have hfin := hbel.trans (hb2.mono hbel.size)
  go_wp2
  go_ret
  exact ⟨rfl, hfin⟩
set_option maxRecDepth 100000 in
set_option maxHeartbeats 1600000 in
theorem rightMod_any (m b : List Int) (w : World) (hm : m.length = 10) (hb : b.length = 10) :
    Calls Tryd.prog 43 #[.agg (m.map iV ++ b.map iV).toArray] w fun e w' => e = .returned (.bool (pairI m b)) ∧ Below w.heap.size w w' := by
  have HM := Lib.hid hm
  have HB := Lib.hid hb
  have HL : Hid ((m.map iV ++ b.map iV).length = 20) := by
    have : (m.map iV ++ b.map iV).length = 20 := by rw [List.length_append, List.length_map, List.length_map, hm, hb]
    exact this
  have e1 : ((m.map iV ++ b.map iV).drop 0).take (m.map iV).length = m.map iV := by rw [List.drop_zero, List.take_left' rfl]
  have e2 : ((m.map iV ++ b.map iV).drop 10).take (b.map iV).length = b.map iV := by rw [List.drop_left' (by rw [List.length_map]; exact hm), List.take_of_length_le (Nat.le_refl _)]
  have E1 := Lib.hid e1
  have E2 := Lib.hid e2
  have hz1 : (Tryd.prog.info? 23).map (·.size) = some (m.map iV).length := by rw [List.length_map, hm]; exact Tryd.szH
  have hz2 : (Tryd.prog.info? 23).map (·.size) = some (b.map iV).length := by rw [List.length_map, hb]; exact Tryd.szH
  clear hm hb e1 e2
  go_enter Tryd.func43, Tryd.ntmps43
  go_wp2_with (with_reducible refine wpList_box (o := ⟨some 1, .box 43 (.tmp 0), _, _, _, _⟩) ?g1 43 (.tmp 0) ?o1 (.agg (m.map iV ++ b.map iV).toArray) (m.map iV ++ b.map iV) ?x1 ?c1 ?_)
  try (case g1 => rfl)
  try (case o1 => rfl)
  try (case x1 => rfl)
  try (case c1 => rfl)
  intro gp w1 hgp hs1 hb1 hP1
  have hbel : Below w.heap.size w w1 := hb1.mono (Nat.le_of_eq hgp.out.symm)
  clear hgp hs1 hb1
  go_wp2_with (first | (with_reducible refine wpList_get (o := ⟨some 4, .load 23 (.tmp 3), _, _, _, _⟩) (by with_unfolding_all rfl) 23 (.tmp 3) (by with_unfolding_all rfl) gp 0 (by with_unfolding_all rfl) hP1 (m.map iV) E1.out _ (by exact Tryd.underlying23) (by with_unfolding_all rfl) hz1 ?_) | (with_reducible refine wpList_get (o := ⟨some 6, .load 23 (.tmp 5), _, _, _, _⟩) (by with_unfolding_all rfl) 23 (.tmp 5) (by with_unfolding_all rfl) gp 10 (by with_unfolding_all rfl) hP1 (b.map iV) E2.out _ (by exact Tryd.underlying23) (by with_unfolding_all rfl) hz2 ?_))
  (with_reducible refine (rightPair_any m b _ HM.out HB.out).mono ?_)
  rintro e w2 ⟨rfl, hb2⟩
  have hfin := hbel.trans (hb2.mono hbel.size)
  go_wp2
  go_ret
  exact ⟨rfl, hfin⟩
set_option maxRecDepth 100000 in
set_option maxHeartbeats 1600000 in
theorem free_any (p : Pat) (w : World) :
    Calls Tryd.prog 32 #[.agg p.cells.toArray] w fun e w' => e = .returned (.int .i64 (160 - (cnt p.m 0 160 : Int))) ∧ Below w.heap.size w w' := by
  obtain ⟨N, hN⟩ : ∃ N : Nat, Hid (N = cnt p.m 0 160) := ⟨_, rfl⟩
  have hN1 : N ≤ 160 := by rw [hN.out]; exact cnt_le _ _ _
  rw [← hN.out]
  go_enter Tryd.func32, Tryd.ntmps32
  go_wp2_with (with_reducible refine wpList_box (o := ⟨some 1, .box 25 (.tmp 0), _, _, _, _⟩) ?g1 25 (.tmp 0) ?o1 (.agg p.cells.toArray) p.cells ?x1 ?c1 ?_)
  try (case g1 => rfl)
  try (case o1 => rfl)
  try (case x1 => rfl)
  try (case c1 => rfl)
  intro gp w1 hgp hs1 hb1 hP1
  have hbel : Below w.heap.size w w1 := hb1.mono (Nat.le_of_eq hgp.out.symm)
  clear hgp hs1 hb1
  go_wp2_with (with_reducible refine wpList_get (o := ⟨some 4, .load 23 (.tmp 3), _, _, _, _⟩) (by with_unfolding_all rfl) 23 (.tmp 3) (by with_unfolding_all rfl) gp 0 (by with_unfolding_all rfl) hP1 (H p.m) (cells_take_m p) _ (by exact Tryd.underlying23) (by with_unfolding_all rfl) (by rw [H_length]; exact Tryd.szH) ?_)
  (with_reducible refine (count_any p.m _).mono ?_)
  rintro e w2 ⟨rfl, hb2⟩
  rw [← hN.out]
  have hfin := hbel.trans (hb2.mono hbel.size)
  clear hN
  go_wp2
  go_ret
  exact ⟨rfl, hfin⟩
set_option maxRecDepth 100000 in
set_option maxHeartbeats 1600000 in
theorem least_any (p : Pat) (w : World) :
    Calls Tryd.prog 31 #[.agg p.cells.toArray] w fun e w' => e = .returned (.agg (H p.b).toArray) ∧ Below w.heap.size w w' := by
  go_enter Tryd.func31, Tryd.ntmps31
  go_wp2_with (with_reducible refine wpList_box (o := ⟨some 1, .box 25 (.tmp 0), _, _, _, _⟩) ?g1 25 (.tmp 0) ?o1 (.agg p.cells.toArray) p.cells ?x1 ?c1 ?_)
  try (case g1 => rfl)
  try (case o1 => rfl)
  try (case x1 => rfl)
  try (case c1 => rfl)
  intro gp w1 hgp hs1 hb1 hP1
  go_wp2_with (with_reducible refine wpList_alloc (o := ⟨some 2, .alloc 23, _, _, _, _⟩) (by with_unfolding_all rfl) 23 (by with_unfolding_all rfl) (.agg (H no).toArray) (H no) (by exact Tryd.zeroH) (by with_unfolding_all rfl) ?_)
  intro gr w2 hgr hs2 hb2 hR2
  have hle : w.heap.size ≤ gp := Nat.le_of_eq hgp.out.symm
  have hab : gp < gr := by have := hgp.out; have := hs1.out; have := hgr.out; omega
  have hP2 := hP1.next hb2 hab
  have hbel := (hb1.mono hle).trans (hb2.mono (by omega : w.heap.size ≤ gr))
  clear hgp hs1 hb1 hP1 hgr hs2 hb2
  go_wp2_with (first | (with_reducible refine wpList_get (o := ⟨some 4, .load 23 (.tmp 3), _, _, _, _⟩) (by with_unfolding_all rfl) 23 (.tmp 3) (by with_unfolding_all rfl) gp 10 (by with_unfolding_all rfl) hP2 (H p.b) (cells_take_b p) _ (by exact Tryd.underlying23) (by with_unfolding_all rfl) (by rw [H_length]; exact Tryd.szH) ?_) | (with_reducible refine wpList_put (o := ⟨none, .store 23 (.tmp 2) (.tmp 4), _, _, _, _⟩) (by with_unfolding_all rfl) 23 (.tmp 2) (.tmp 4) (by with_unfolding_all rfl) gr 0 (by with_unfolding_all rfl) (.agg (H p.b).toArray) (by with_unfolding_all rfl) hR2 (H p.b) (by with_unfolding_all rfl) (by with_unfolding_all (rw [H_length]; exact Tryd.szH)) (by with_unfolding_all (rw [H_length, H_length]; omega)) (by with_unfolding_all (exact H_one p.b)) ?_))
  intro w4 hu4 hR4
  rw [splice_all _ _ (by rw [H_length, H_length])] at hR4
  have hb4 := hbel.trans (hu4.below (B := w.heap.size) (by omega))
  go_wp2
  refine bodyPost_ret (results_cell_row rfl _ _ gr _ _ _ _ rfl hR4 Tryd.underlying23 rfl (by rw [List.size_toArray, H_length]; exact Tryd.szH)) rfl ⟨rfl, hb4⟩
def Pat.exact (h : Nat → Bool) : Pat := ⟨yes, h⟩
set_option maxRecDepth 100000 in
set_option maxHeartbeats 1600000 in
theorem exact_any (h : Nat → Bool) (w : World) :
    Calls Tryd.prog 27 #[.agg (H h).toArray] w fun e w' => e = .returned (.agg (Pat.exact h).cells.toArray) ∧ Below w.heap.size w w' := by
  obtain ⟨X, hX⟩ : ∃ X, Hid (Pat.exact h = X) := ⟨_, rfl⟩
  rw [hX.out]
  go_enter Tryd.func27, Tryd.ntmps27
  go_wp2_with (with_reducible refine wpList_box (o := ⟨some 1, .box 23 (.tmp 0), _, _, _, _⟩) ?g1 23 (.tmp 0) ?o1 (.agg (H h).toArray) (H h) ?x1 ?c1 ?_)
  try (case g1 => rfl)
  try (case o1 => rfl)
  try (case x1 => rfl)
  try (case c1 => rfl)
  intro gp w1 hgp hs1 hb1 hP1
  go_wp2_with (with_reducible refine wpList_alloc (o := ⟨some 2, .alloc 25, _, _, _, _⟩) (by with_unfolding_all rfl) 25 (by with_unfolding_all rfl) (.agg (H no ++ H no).toArray) (H no ++ H no) (by exact Tryd.zeroPt) (by with_unfolding_all rfl) ?_)
  intro gr w2 hgr hs2 hb2 hR2
  rw [cells_zero] at hR2
  have hle : w.heap.size ≤ gp := Nat.le_of_eq hgp.out.symm
  have hab : gp < gr := by have := hgp.out; have := hs1.out; have := hgr.out; omega
  have hP2 := hP1.next hb2 hab
  have hbel := (hb1.mono hle).trans (hb2.mono (by omega : w.heap.size ≤ gr))
  clear hgp hs1 hb1 hP1 hgr hs2 hb2
  go_wp2
  have hrg : ∀ w', Below w2.heap.size w2 w' → w'.rangeAt gp 0 (H h) := fun w' hw => blk_range (hP2.next hw hP2.lt)
  have hun := Tryd.underlying23
  have hz1 : (Tryd.prog.info? 23).map (·.size) = some (H h).length := by rw [H_length]; exact Tryd.szH
  have HRG := Lib.hid hrg
  have hdd := below_drew w2
  have hR3 := hR2.next hdd hR2.lt
  clear hrg
  refine wp_region_held_drew (S := fun w' => w'.rangeAt gp 0 (H h)) (by kernel_rfl) (HRG.out _ hdd) (fun hHeld => ?_)
  generalize w2.drew = wd at hdd hHeld hR3 ⊢
  refine' wpAnyH_take (i := 1) (v := _) rfl (by kernel_rfl) (by kernel_rfl) (by kernel_rfl) (fun _ _ _ h => h) (yieldsIf_load_mid (by rfl) _ _ (by rfl) _ _ (by rfl) _ _ ?Sv1 ?uv1 ?dv1 ?iv1) (by assumption) ?rv1
  case Sv1 => exact (by intro w h; exact h)
  case uv1 => exact hun
  case dv1 => rfl
  case iv1 => exact hz1
  (try simp only [List.getElem_toArray, List.getElem_cons_succ, List.getElem_cons_zero, Act.put, List.setIfInBounds_toArray, List.set_cons_zero, List.set_cons_succ])
  refine wpAnyH_ready (rs := [0]) (by kernel_rfl) (by simp) ?_
  refine AllReadyH.cons rfl (fun K hK => ?_) AllReadyH.nil
  go_simp
  go_wp2_with fail
  (with_reducible refine (full_any _).mono ?_)
  rintro e wA ⟨rfl, hbA⟩
  have hkA := below_join hdd hbA
  have hRA := hR3.next hbA hR3.lt
  refine hK.out _ _ (HRG.out _ hkA) (fun hHeld => ?_)
  clear hK K hdd hbA hR3
  have hbd : ∀ w, (Instr.build 25 #[(0, .agg (H yes).toArray), (1, .agg (H h).toArray)]).run Tryd.prog w = .ok (.agg X.cells.toArray) w := fun w => by rw [← hX.out]; exact run_buildP w _ _ (H_length _) (H_length _)
  refine wpAnyH_take (i := 2) (v := .agg X.cells.toArray) rfl (by kernel_rfl) (by kernel_rfl) (by kernel_rfl) (fun _ _ _ h => h) (Or.inl ⟨by rfl, ?yb⟩) (by assumption) ?rb
  case yb =>
    intro w _
    exact run_execBuild (T := 25) (ps := #[(0, .tmp 3), (1, .tmp 4)]) w (by with_unfolding_all rfl) (by with_unfolding_all rfl) hbd
  (try simp only [List.getElem_toArray, List.getElem_cons_succ, List.getElem_cons_zero, Act.put, List.setIfInBounds_toArray, List.set_cons_zero, List.set_cons_succ])
  refine wpAnyH_ready (rs := [3]) (by kernel_rfl) (by simp) ?_
  refine AllReadyH.cons rfl (fun K hK => ?_) AllReadyH.nil
  rw [if_pos (by rfl)]
  refine wp_put 25 (.tmp 2) (.tmp 5) rfl gr 0 rfl (.agg X.cells.toArray) rfl hRA X.cells rfl (by rw [Pat.cells_length]; exact Tryd.szP) (by rw [Pat.cells_length, Pat.cells_length]; omega) (cells_one _) ?_
  intro wC huC hRC
  rw [splice_all _ _ (by rw [Pat.cells_length, Pat.cells_length])] at hRC
  have hPC := (hP2.next hkA hP2.lt).upd huC (by omega)
  refine hK.out _ _ (blk_range hPC) (fun hHeld => ?_)
  clear hK K
  have hbC := (hbel.trans (hkA.mono hbel.size)).trans (huC.below (B := w.heap.size) (by omega))
  refine wpAnyH_done (by kernel_rfl) ?_ _
  go_wp2
  refine bodyPost_ret (results_cell_row rfl _ _ gr _ _ _ _ rfl hRC Tryd.underlying25 rfl (by rw [List.size_toArray, Pat.cells_length]; exact Tryd.szP)) rfl ⟨rfl, hbC⟩
end Go.Proofs.YtbldnhpbmfmepaaDoor

/-
  Contracts of the walks over Bit, cmp.Compare, slices.Compare and CompareHeads. Conditions: none.
-/
namespace Go.Proofs.YtbldnhpbmfmepaaDoor
set_option linter.unusedVariables false
set_option linter.unusedSimpArgs false
open Go.RowKit

/-- How two rows of numbers compare. -/
def cmpL : List Nat → List Nat → Int
  | a :: l, b :: r => if a < b then -1 else if b < a then 1 else cmpL l r
  | _, _ => 0
def val : List Nat → Nat
  | [] => 0
  | a :: l => a * 65536 ^ l.length + val l
theorem val_lt : ∀ {l : List Nat}, (∀ x ∈ l, x < 65536) → val l < 65536 ^ l.length
  | [], _ => by decide
  | a :: l, h => by
    have h1 := val_lt (fun x hx => h x (List.mem_cons_of_mem _ hx))
    have h2 : a + 1 ≤ 65536 := h a (List.mem_cons_self ..)
    unfold val
    rw [List.length_cons, Nat.pow_succ]
    have h3 := Nat.mul_le_mul_left (65536 ^ l.length) h2
    rw [Nat.mul_add, Nat.mul_one, Nat.mul_comm _ a] at h3
    omega
theorem cmpL_val : ∀ {l r : List Nat}, l.length = r.length → (∀ x ∈ l, x < 65536) → (∀ x ∈ r, x < 65536) → cmpL l r = if val l < val r then -1 else if val r < val l then 1 else 0
  | [], [], _, _, _ => by decide
  | [], _ :: _, h, _, _ => by cases h
  | _ :: _, [], h, _, _ => by cases h
  | a :: l, b :: r, h, hl, hr => by
    have hlen : l.length = r.length := by simpa using h
    have ih := cmpL_val hlen (fun x hx => hl x (List.mem_cons_of_mem _ hx)) (fun x hx => hr x (List.mem_cons_of_mem _ hx))
    have h1 := val_lt (fun x hx => hl x (List.mem_cons_of_mem _ hx))
    have h2 := val_lt (fun x hx => hr x (List.mem_cons_of_mem _ hx))
    unfold cmpL val
    rw [hlen] at h1 ⊢
    generalize 65536 ^ r.length = W at h1 h2 ⊢
    by_cases c1 : a < b
    · have := Nat.mul_le_mul_right W (show a + 1 ≤ b from c1)
      rw [Nat.add_mul, Nat.one_mul] at this
      rw [if_pos c1, if_pos (by omega)]
    · by_cases c2 : b < a
      · have := Nat.mul_le_mul_right W (show b + 1 ≤ a from c2)
        rw [Nat.add_mul, Nat.one_mul] at this
        rw [if_neg c1, if_pos c2, if_neg (by omega), if_pos (by omega)]
      · obtain rfl : a = b := by omega
        have e1 : (a * W + val l < a * W + val r) = (val l < val r) := propext ⟨fun h => by omega, fun h => by omega⟩
        have e2 : (a * W + val r < a * W + val l) = (val r < val l) := propext ⟨fun h => by omega, fun h => by omega⟩
        rw [if_neg c1, if_neg c2, ih]
        simp only [e1, e2]
theorem val_words (f : Nat → Bool) : ∀ k s, val ((List.range' s k).map (word f)) = wordB f (16 * s) (16 * k)
  | 0, s => rfl
  | k + 1, s => by
    rw [List.range'_succ, List.map_cons]
    unfold val
    rw [val_words f k (s + 1), List.length_map, List.length_range', show 16 * (k + 1) = 16 + 16 * k by omega, wordB_add, show 16 * (s + 1) = 16 * s + 16 by omega, show (65536 : Nat) = 2 ^ 16 from rfl, ← Nat.pow_mul]
    rfl
theorem val_head (f : Nat → Bool) : val (HN f) = num f := by
  unfold HN
  rw [List.range_eq_range']
  exact val_words f 10 0
theorem HN_lt (f : Nat → Bool) : ∀ x ∈ HN f, x < 65536 := by
  intro x hx
  obtain ⟨w, _, rfl⟩ := List.mem_map.1 hx
  exact word_lt f w
/-- How two heads compare. -/
def cmpH (f g : Nat → Bool) : Int := if num f < num g then -1 else if num g < num f then 1 else 0
theorem cmpL_head (f g : Nat → Bool) : cmpL (HN f) (HN g) = cmpH f g := by
  rw [cmpL_val (by rw [HN_length, HN_length]) (HN_lt f) (HN_lt g), val_head, val_head]; rfl
theorem cmpL_skip : ∀ {l r : List Nat} {k : Nat} {a b : Nat}, l.take k = r.take k → l[k]? = some a → r[k]? = some b → a ≠ b → cmpL l r = if a < b then -1 else 1
  | [], _, k, a, b, _, ha, _, _ => by cases k <;> cases ha
  | _ :: _, [], k, a, b, _, _, hb, _ => by cases k <;> cases hb
  | x :: l, y :: r, 0, a, b, _, ha, hb, hne => by
    cases ha; cases hb
    unfold cmpL
    by_cases c : x < y
    · rw [if_pos c, if_pos c]
    · rw [if_neg c, if_pos (by omega), if_neg c]
  | x :: l, y :: r, k + 1, a, b, ht, ha, hb, hne => by
    rw [List.take_succ_cons, List.take_succ_cons, List.cons.injEq] at ht
    obtain ⟨rfl, ht⟩ := ht
    unfold cmpL
    rw [if_neg (Nat.lt_irrefl _), if_neg (Nat.lt_irrefl _)]
    exact cmpL_skip ht (by simpa using ha) (by simpa using hb) hne
theorem cmpL_self : ∀ l : List Nat, cmpL l l = 0
  | [] => rfl
  | a :: l => by
    unfold cmpL
    rw [if_neg (Nat.lt_irrefl _), if_neg (Nat.lt_irrefl _)]
    exact cmpL_self l
set_option maxRecDepth 100000 in
theorem isNaN_any (x : Int) (w : World) : Calls Tryd.prog 118 #[.int .i64 x] w fun e w' => e = .returned (.bool false) ∧ w = w' := by
  go_enter Tryd.func118, Tryd.ntmps118
  go_wp2
  go_ret
  exact ⟨by simp, rfl⟩
def cmpI (x y : Int) : Int := if x < y then -1 else if y < x then 1 else 0
set_option maxRecDepth 100000 in
set_option maxHeartbeats 1600000 in
theorem cmpI_any (x y : Int) (w : World) : Calls Tryd.prog 106 #[.int .i64 x, .int .i64 y] w fun e w' => e = .returned (.int .i64 (cmpI x y)) ∧ w = w' := by
  obtain ⟨c, hc⟩ : ∃ c, Hid (cmpI x y = c) := ⟨_, rfl⟩
  rw [hc.out]
  rcases (by omega : x < y ∨ y < x ∨ x = y) with h | h | h
  · have hcv : Hid (c = -1) := by
      have : c = -1 := by rw [← hc.out]; unfold cmpI; rw [if_pos h]
      exact this
    clear hc
    go_enter Tryd.func106, Tryd.ntmps106
    go_wp2_with (go_at_call 118; refine (isNaN_any _ _).mono ?_; rintro e w' ⟨rfl, rfl⟩)
    go_ret
    exact ⟨by rw [hcv.out]; rfl, rfl⟩
  · have hcv : Hid (c = 1) := by
      have : c = 1 := by rw [← hc.out]; unfold cmpI; rw [if_neg (by omega), if_pos h]
      exact this
    have h2 : y ≤ x := by omega
    clear hc
    go_enter Tryd.func106, Tryd.ntmps106
    go_wp2_with (go_at_call 118; refine (isNaN_any _ _).mono ?_; rintro e w' ⟨rfl, rfl⟩)
    go_ret
    exact ⟨by rw [hcv.out]; rfl, rfl⟩
  · subst h
    have hcv : Hid (c = 0) := by
      have : c = 0 := by rw [← hc.out]; unfold cmpI; rw [if_neg (by omega), if_neg (by omega)]
      exact this
    clear hc
    go_enter Tryd.func106, Tryd.ntmps106
    go_wp2_with (go_at_call 118; refine (isNaN_any _ _).mono ?_; rintro e w' ⟨rfl, rfl⟩)
    go_ret
    exact ⟨by rw [hcv.out]; rfl, rfl⟩
end Go.Proofs.YtbldnhpbmfmepaaDoor

/-
  The bits that a head has, one after the other, in plain words. Conditions: none.
-/
namespace Go.Proofs.YtbldnhpbmfmepaaDoor
set_option linter.unusedVariables false
set_option linter.unusedSimpArgs false
open Go.RowKit

/-- The bits below i that a head has. -/
def onesTo (f : Nat → Bool) (i : Nat) : List Nat := (List.range i).filter f
theorem onesTo_succ (f : Nat → Bool) (i : Nat) : onesTo f (i + 1) = onesTo f i ++ if f i then [i] else [] := by
  unfold onesTo
  rw [List.range_succ, List.filter_append]
  congr 1
  by_cases h : f i <;> simp [h]
theorem onesTo_none {f : Nat → Bool} {i : Nat} : ∀ {k}, i ≤ k → (∀ j, i ≤ j → j < k → f j = false) → onesTo f k = onesTo f i
  | 0, h, _ => by rw [show i = 0 by omega]
  | k + 1, h, hn => by
    by_cases e : i = k + 1
    · rw [e]
    · rw [onesTo_succ, hn k (by omega) (by omega), onesTo_none (by omega) (fun j h1 h2 => hn j h1 (by omega))]
      simp
theorem onesTo_prefix (f : Nat → Bool) {i : Nat} : ∀ {k}, i ≤ k → onesTo f i <+: onesTo f k
  | 0, h => by rw [show i = 0 by omega]; exact List.prefix_refl _
  | k + 1, h => by
    by_cases e : i = k + 1
    · rw [e]; exact List.prefix_refl _
    · rw [onesTo_succ]
      exact (onesTo_prefix f (by omega)).trans (List.prefix_append _ _)
/-- The first bit from i on, if there is one below k. -/
theorem first_one (f : Nat → Bool) (i : Nat) : ∀ k, (∀ j, i ≤ j → j < k → f j = false) ∨ ∃ s, i ≤ s ∧ s < k ∧ f s = true ∧ ∀ j, i ≤ j → j < s → f j = false
  | 0 => .inl fun j _ h => absurd h (by omega)
  | k + 1 => by
    rcases first_one f i k with h | ⟨s, h1, h2, h3, h4⟩
    · by_cases hk : i ≤ k
      · cases hf : f k
        · refine .inl fun j h1 h2 => ?_
          rcases (by omega : j < k ∨ j = k) with h3 | rfl
          · exact h j h1 h3
          · exact hf
        · exact .inr ⟨k, hk, by omega, hf, h⟩
      · exact .inl fun j h1 h2 => absurd h2 (by omega)
    · exact .inr ⟨s, h1, by omega, h3, h4⟩
/-- What is left of a head from bit i on. -/
def from_ (f : Nat → Bool) (i : Nat) : Nat → Bool := fun j => decide (i ≤ j) && f j
theorem bitLen_pow : ∀ (fuel n x : Nat), n < fuel → 2 ^ n ≤ x → x < 2 ^ (n + 1) → Lib.bitLenAux fuel x = n + 1
  | 0, n, x, h, _, _ => absurd h (by omega)
  | fuel + 1, 0, x, _, h1, h2 => by
    have : x = 1 := by simp at h1 h2; omega
    subst this
    unfold Lib.bitLenAux
    rw [if_neg (by decide), show 1 / 2 = 0 from rfl]
    cases fuel <;> rfl
  | fuel + 1, n + 1, x, h, h1, h2 => by
    have hp : 0 < 2 ^ n := Nat.two_pow_pos n
    unfold Lib.bitLenAux
    rw [if_neg (by rw [Nat.pow_succ] at h1; omega), bitLen_pow fuel n (x / 2) (by omega) (by rw [Nat.pow_succ] at h1; omega) (by rw [Nat.pow_succ] at h2; omega)]
    omega
theorem word_first {f : Nat → Bool} {i k s : Nat} (h1 : 16 * k ≤ i) (h2 : i ≤ s) (h3 : s < 16 * k + 16) (hs : f s = true) (hn : ∀ j, i ≤ j → j < s → f j = false) : 2 ^ (15 - s % 16) ≤ word (from_ f i) k ∧ word (from_ f i) k < 2 ^ (15 - s % 16 + 1) := by
  obtain ⟨t, ht⟩ : ∃ t, s % 16 = t := ⟨_, rfl⟩
  have hst : s = 16 * k + t := by omega
  rw [ht]
  have e1 := wordB_add (from_ f i) (16 * k) (t + 1) (15 - t)
  rw [show t + 1 + (15 - t) = 16 by omega] at e1
  have e2 : wordB (from_ f i) (16 * k) (t + 1) = 2 * wordB (from_ f i) (16 * k) t + (from_ f i (16 * k + t)).toNat := rfl
  have e3 : wordB (from_ f i) (16 * k) t = 0 := by
    have : wordB (from_ f i) (16 * k) t = wordB no (16 * k) t := wordB_congr fun j hj => by
      unfold from_ no
      by_cases h : i ≤ 16 * k + j
      · rw [hn _ h (by omega)]; simp
      · rw [decide_eq_false h]; rfl
    rw [this]
    clear this e1 e2
    induction t with
    | zero => rfl
    | succ t ih =>
      have hz : ∀ m, wordB no (16 * k) m = 0 := fun m => by
        induction m with
        | zero => rfl
        | succ m ihm => unfold wordB; rw [ihm]; rfl
      exact hz _
  have e4 : (from_ f i (16 * k + t)).toNat = 1 := by
    unfold from_
    rw [← hst, decide_eq_true h2, hs]; rfl
  have b := wordB_lt (from_ f i) (16 * k + (t + 1)) (15 - t)
  have e : word (from_ f i) k = 1 * 2 ^ (15 - t) + wordB (from_ f i) (16 * k + (t + 1)) (15 - t) := by
    show wordB (from_ f i) (16 * k) 16 = _
    rw [e1, e2, e3, e4]
  rw [e, Nat.pow_succ]
  omega
theorem word_len {f : Nat → Bool} {i k s : Nat} (h1 : 16 * k ≤ i) (h2 : i ≤ s) (h3 : s < 16 * k + 16) (hs : f s = true) (hn : ∀ j, i ≤ j → j < s → f j = false) : Lib.bitLen (word (from_ f i) k) = 16 - s % 16 := by
  obtain ⟨a, b⟩ := word_first h1 h2 h3 hs hn
  unfold Lib.bitLen
  rw [bitLen_pow 64 (15 - s % 16) _ (by omega) a b]
  omega
/-- The head with one bit alone. -/
def bitAt (s : Nat) : Nat → Bool := fun j => j == s
theorem word_bit (s : Nat) : word (bitAt s) (s / 16) = 2 ^ (15 - s % 16) := by
  apply Nat.eq_of_testBit_eq
  intro j
  rw [word_test, Nat.testBit_two_pow]
  unfold bitAt
  rw [Bool.eq_iff_iff]
  simp only [Bool.and_eq_true, decide_eq_true_eq, beq_iff_eq]
  omega
theorem andn16 (a b : Nat) (ha : a < 65536) (hb : b < 65536) : bits .andNot .u16 (a : Int) (b : Int) = ((andn a b : Nat) : Int) := by
  have oi : ∀ n : Nat, BitVec.ofInt 16 (n : Int) = BitVec.ofNat 16 n := fun n => BitVec.ofInt_natCast 16 n
  have e : (BitVec.ofInt 16 (a : Int) &&& ~~~BitVec.ofInt 16 (b : Int)).toNat = andn a b := by
    apply Nat.eq_of_testBit_eq
    intro j
    rw [BitVec.toNat_and, BitVec.toNat_not, oi, oi, BitVec.toNat_ofNat, BitVec.toNat_ofNat, Nat.mod_eq_of_lt (by omega), Nat.mod_eq_of_lt (by omega), Nat.testBit_and, andn_test, show 2 ^ 16 - 1 - b = 2 ^ 16 - (b + 1) by omega, Nat.testBit_two_pow_sub_succ (by omega)]
    by_cases hj : j < 16
    · rw [decide_eq_true hj, Bool.true_and]
    · rw [Nat.testBit_lt_two_pow (Nat.lt_of_lt_of_le (show a < 2 ^ 16 by omega) (Nat.pow_le_pow_right (by decide) (by omega)))]; rfl
  show IntKind.u16.wrap (((BitVec.ofInt 16 (a : Int) &&& ~~~BitVec.ofInt 16 (b : Int)).toNat : Nat) : Int) = _
  rw [e, IntKind.wrap_u16]
  have : andn a b ≤ a := Nat.and_le_left
  omega
theorem word_next {f : Nat → Bool} {i k s : Nat} (hk : s / 16 = k) (h2 : i ≤ s) (hn : ∀ j, i ≤ j → j < s → f j = false) : andn (word (from_ f i) k) (2 ^ (15 - s % 16)) = word (from_ f (s + 1)) k := by
  rw [← word_bit, hk, word_andn]
  refine word_congr fun j hj => ?_
  unfold from_ bitAt
  by_cases e : j = s
  · subst e
    rw [decide_eq_false (show ¬ j + 1 ≤ j by omega)]; simp
  · have : (j == s) = false := beq_eq_false_iff_ne.2 e
    rw [this]
    by_cases h : j < s
    · rw [decide_eq_false (show ¬ s + 1 ≤ j by omega)]
      by_cases h3 : i ≤ j
      · rw [hn j h3 h]; simp
      · rw [decide_eq_false h3]; rfl
    · rw [decide_eq_true (show i ≤ j by omega), decide_eq_true (show s + 1 ≤ j by omega)]; simp
theorem word_empty {f : Nat → Bool} {i k : Nat} (hn : ∀ j, i ≤ j → j < 16 * k + 16 → f j = false) : word (from_ f i) k = 0 := by
  rw [word_zero]
  intro j hj
  unfold from_
  by_cases h : i ≤ j
  · rw [hn j h (by omega)]; simp
  · rw [decide_eq_false h]; rfl
theorem word_from (f : Nat → Bool) (k : Nat) : word (from_ f (16 * k)) k = word f k := word_congr fun j hj => by
  unfold from_
  rw [decide_eq_true (show 16 * k ≤ j by omega)]; rfl
/-- What the iterator hands over for a bit: its word, its value there. -/
def encB (s : Nat) : Array Value := #[.int .i64 ((s / 16 : Nat) : Int), .int .i64 ((2 ^ (15 - s % 16) : Nat) : Int)]
end Go.Proofs.YtbldnhpbmfmepaaDoor
