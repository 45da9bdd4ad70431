/-
  Contracts of the functions that the statement calls, part 15 of 37 (merged texts: Dn1, Dn2, Dn3, Dn4, Dn5, Do1). Conditions: as the head of each part says.
-/
import Derived.Test.YthgmlopkcgkjlaaGI
import Derived.Test.YthgmlopkcgkjlaaGN

/-
  Laws for Mount: the first bytes of an array variable as a slice, and a copy between two rows of bytes. Conditions: none.
-/
namespace Go.Proofs.Ythgmlopkcgkjlaa
open Go.RowKit
variable {P : Program}

theorem run_cutTo (g b k : Nat) (hk : k ≤ 128) (w : World) : (Instr.sliceAt 108 (.pointer (some ⟨g, b, none⟩)) none (some (.int .i64 (k : Int))) none).run Try.prog w = .ok (.slice (some ⟨g, b, none⟩) k 128) w := by
  obtain ⟨e1, e2⟩ := arrayLen_of Try.underlying108
  have hrun := run_sliceAt_array_h (P := Try.prog) w 108 ⟨g, b, none⟩ (by rw [e1, e2]; exact Try.underlying108) .i64 (k : Int) (by omega) (by rw [e1]; omega)
  have hs := Try.sz5
  cases hq : Try.prog.info? 5 with
  | none => simp [hq] at hs
  | some i =>
    have hz : i.size = 1 := by simpa [hq] using hs
    rw [e1, e2] at hrun
    simp [sizeOf, typeInfo, hq, hz, slicedAt, addr_mid] at hrun
    exact hrun
/-- A copy of n bytes from a row into a part of a variable, as one step. -/
theorem wp_copyRow {o : Oper} {a : Act} {w : World} {K : Act → World → Prop} {Q : Exit → Act → World → Prop} (d s : Operand) (dT sT : TypeId)
    (ho : o.op = .call { callee := .builtin .copy, args := #[d, s], argTypes := #[dT, sT] }) (elem : TypeId) (hu : P.underlying dT = some (.slice elem)) (hsz : (P.info? elem).map (·.size) = some 1)
    (g k n dCap : Nat) (hd : a.eval d = .slice (some ⟨g, k, none⟩) n dCap) (ad : Addr) (sCap : Nat) (hs : a.eval s = .slice (some ad) n sCap) (cs : List Value) (hn : cs.length = n) (hsrc : ∀ j v, cs[j]? = some v → w.cell? (ad.add j) = some v) (h1 : ∀ v ∈ cs, v.oneCell' = true)
    {t : TypeId} {l : List Value} (hb : Blk w g t l) (hl : k + n ≤ l.length)
    (h : ∀ w', Upd g w w' → Blk w' g t (splice l k cs) → K (a.put o.dst (goInt n)) w') : Oper.wp P o a w K Q := by
  have hrun := run_copy_row (P := P) w dT sT o.type elem g k n dCap ad n sCap l.toArray t cs hu hsz hb (by rw [hn]; exact (Nat.min_self n).symm) hsrc (by rw [hn]; simpa using hl) h1
  rw [hn] at hrun
  unfold Oper.wp
  simp [execOp, ho, resolve, invoke, builtin, hd, hs, hrun, Result.andThen]
  have := h _ (upd_setRow w g _) (blk_setRow hb (splice l k cs))
  unfold splice at this
  rw [hn] at this
  first
    | exact this
    | (rw [List.append_assoc] at this; exact this)
    | (simp only [List.append_assoc] at this; exact this)
end Go.Proofs.Ythgmlopkcgkjlaa

/-
  The disk in the middle of a Mount: its pages and what their contents are. Conditions: none.
-/
namespace Go.Proofs.Ythgmlopkcgkjlaa
open Go.RowKit

theorem page_set_ne {M : DM} {i j : Nat} {p : Pg} (h : i ≠ j) : (M.set i p).page j = M.page j := by
  unfold DM.page DM.set
  rw [List.getD_eq_getElem?_getD, List.getElem?_set_ne h, List.getD_eq_getElem?_getD]
theorem page_set_self {M : DM} {i : Nat} {p : Pg} (h : i < M.ps.length) : (M.set i p).page i = p := by
  unfold DM.page DM.set
  rw [List.getD_eq_getElem?_getD, List.getElem?_set_self h]; rfl
theorem pending_nodup (M : DM) : M.pending.Nodup := by unfold DM.pending; exact List.nodup_range.filter _
theorem mtTo_page (M : DM) (picks : List Int) (i : Nat) : ∀ j, j ≤ M.pending.length → (∀ m, m < j → M.pending[m]? ≠ some i) → (mtTo M picks j).page i = M.page i
  | 0, _, _ => rfl
  | j + 1, hj, h => by
    obtain ⟨a, ha⟩ : ∃ a, M.pending[j]? = some a := ⟨_, List.getElem?_eq_getElem (by omega)⟩
    rw [← mtTo_next M picks j a ha, page_set_ne (fun e => h j (Nat.lt_succ_self j) (by rw [ha, e]))]
    exact mtTo_page M picks i j (by omega) (fun m hm => h m (by omega))
theorem mtTo_at (M : DM) (picks : List Int) (j i : Nat) (h : M.pending[j]? = some i) : (mtTo M picks j).page i = M.page i := by
  have hj : j < M.pending.length := (List.getElem?_eq_some_iff.1 h).1
  refine mtTo_page M picks i j (by omega) (fun m hm e => ?_)
  have := (List.getElem?_inj (by omega) (pending_nodup M)).1 (e.trans h.symm)
  omega
theorem settle_none {p : Pg} (c : Nat) : (p.settle c).new = none := by
  unfold Pg.settle
  cases h : p.new with
  | none => exact h
  | some l => rfl
theorem mtTo_none (M : DM) (picks : List Int) : ∀ j, j ≤ M.pending.length → ∀ i, i < M.ps.length → ((M.page i).pend = false ∨ ∃ m, m < j ∧ M.pending[m]? = some i) → ((mtTo M picks j).page i).new = none
  | 0, _, i, _, h => by
    rcases h with h | ⟨m, hm, _⟩
    · show (M.page i).new = none
      unfold Pg.pend at h
      cases hn : (M.page i).new with
      | none => rfl
      | some l => rw [hn] at h; cases h
    · omega
  | j + 1, hj, i, hi, h => by
    obtain ⟨a, ha⟩ : ∃ a, M.pending[j]? = some a := ⟨_, List.getElem?_eq_getElem (by omega)⟩
    rw [← mtTo_next M picks j a ha]
    by_cases e : a = i
    · subst e
      rw [page_set_self (by rw [mtTo_len]; exact hi)]
      exact settle_none _
    · rw [page_set_ne e]
      refine mtTo_none M picks j (by omega) i hi ?_
      rcases h with h | ⟨m, hm, hmi⟩
      · exact Or.inl h
      · refine Or.inr ⟨m, ?_, hmi⟩
        have : m ≠ j := fun e2 => by rw [e2, ha] at hmi; injection hmi with hmi; exact e hmi
        omega
theorem mount_none (M : DM) (picks : List Int) : ∀ q ∈ (M.mount picks).ps, q.new = none := by
  intro q hq
  obtain ⟨i, hi, rfl⟩ := List.mem_iff_getElem.1 hq
  have hl : (M.mount picks).ps.length = M.ps.length := mtTo_len M picks M.pending.length
  have hi' : i < M.ps.length := by omega
  have h := mtTo_none M picks M.pending.length (Nat.le_refl _) i hi' (by
    cases hp : (M.page i).pend with
    | false => exact Or.inl rfl
    | true =>
      have hm : i ∈ M.pending := by unfold DM.pending; exact List.mem_filter.2 ⟨List.mem_range.2 hi', hp⟩
      obtain ⟨m, hm1, hm2⟩ := List.mem_iff_getElem.1 hm
      exact Or.inr ⟨m, hm1, by rw [List.getElem?_eq_getElem hm1, hm2]⟩)
  have e : (mtTo M picks M.pending.length).page i = (M.mount picks).ps[i] := by
    unfold DM.page
    rw [List.getD_eq_getElem?_getD]
    show ((M.mount picks).ps[i]?).getD _ = _
    rw [List.getElem?_eq_getElem hi]; rfl
  rw [← e]; exact h
theorem image_set (M : DM) (i : Nat) (p : Pg) : (M.set i p).image = M.image.set i p.old := by unfold DM.image DM.set; rw [List.map_set]
/-- What the copy leaves: the first c bytes are the pending ones. -/
theorem pgCells_copy (L : List (List UInt8)) (hL : ∀ l ∈ L, l.length = 128) (i c : Nat) (o l : List UInt8) (h : L[i]? = some o) (ho : o.length = 128) (hl : l.length = 128) (hc : c ≤ 128) : splice (pgCells L) (i * 128) ((l.take c).map B8) = pgCells (L.set i (l.take c ++ o.drop c)) := by
  obtain ⟨A, B, h1, h2, h3⟩ := pgCells_split L hL i o h
  rw [h1, h3, ← h2]
  have hp : (o.map B8).length = 128 := by rw [List.length_map]; exact ho
  have e := splice_mid A (o.map B8) B ((l.take c).map B8) 0 (by rw [List.length_map, List.length_take, hp]; omega)
  rw [Nat.add_zero] at e
  rw [List.append_assoc, e, List.append_assoc]
  congr 2
  unfold splice
  rw [List.take_zero, List.nil_append, Nat.zero_add, List.length_map, List.length_take, hl, Nat.min_eq_left hc, List.map_append, List.map_drop]
end Go.Proofs.Ythgmlopkcgkjlaa

/-
  Contract of the walk over disk.Mount. Conditions: the record holds the disk, the picks lie elsewhere.
-/
namespace Go.Proofs.Ythgmlopkcgkjlaa
open Go.RowKit

def MtRel (M : DM) (picks : List Int) (gd gp gm n k cp : Nat) (Y : List Value) (w w1 : World) (i : Value) (wr : World) : Prop :=
  ∃ j : Nat, j ≤ M.pending.length ∧ i = .int .i64 j ∧ Blk wr gd 105 [.slice (some ⟨gp, 0, none⟩) n cp, .map (some gm), .bool M.up, .int .i64 M.trip] ∧ Blk wr gp 108 (pgCells (mtTo M picks j).image ++ Y) ∧ MapOK wr gm k M.ps ∧ Only [gd, gp, gm] w wr ∧ Only [gd, gp, gm] w1 wr
set_option maxRecDepth 100000 in
set_option maxHeartbeats 3200000 in
theorem mount_any (gd gp gm k cp : Nat) (Y : List Value) (M : DM) (A : Option Addr) (pc : Nat) (picks : List Int) (w : World) (hM : M.ok) (h : PRep w gd gp gm cp Y M k) (_hpl : picks.length ≤ 1000000) (hpk : ∀ w', Only [gd, gp, gm] w w' → PkAt w' A picks) :
    Calls Try.prog 27 #[.pointer (some ⟨gd, 0, none⟩), .slice A picks.length pc] w fun x w' => x = .returned (.tuple #[]) ∧ PRep w' gd gp gm cp Y (M.mount picks) k ∧ Only [gd, gp, gm] w w' := by
  have hn4 : M.ps.length ≤ 4096 := hM.2.2.2
  have hple := pending_le M
  have hg1 := h.d.lt
  have hg2 := h.p.lt
  have hg3 := h.m.lt
  have hn1 := h.n1
  have hn2 := h.n2
  have hn3 := h.n3
  have HPK := Lib.hid hpk
  have HM := Lib.hid hM
  obtain ⟨q, hq⟩ : ∃ q, Hid (picks.length = q) := ⟨_, rfl⟩
  rw [hq.out]
  clear hpk hM
  go_enter Try.func27, Try.ntmps27
  go_wp2_with fail
  (with_reducible refine (pending_any gd gp gm k cp Y M _ HM.out h).mono ?_)
  rintro e w1 ⟨v, rfl, hown, _, hb1⟩
  obtain ⟨N, hN⟩ : ∃ N, Hid (M.pending.length = N) := ⟨_, rfl⟩
  rw [hN.out] at hown hple
  have h1 := h.next hb1
  have ho1 : Only [gd, gp, gm] w w1 := Only.of_below hb1
  obtain ⟨B, c, rfl⟩ := own_shape hown
  obtain ⟨base, hbase⟩ : ∃ base, Hid (w.heap.size = base) := ⟨_, rfl⟩
  rw [hbase.out] at hown hg1 hg2 hg3
  have hoz : Hid (∀ w', Only [gd, gp, gm] w1 w' → w'.ownsRow base 3 1 (.slice B N c) N ((pendZ M).map Z8)) := by
    have : ∀ w', Only [gd, gp, gm] w1 w' → w'.ownsRow base 3 1 (.slice B N c) N ((pendZ M).map Z8) := fun w' ho => own_only hown ho (by simp; omega)
    exact this
  obtain ⟨n, hn⟩ : ∃ n, Hid (M.ps.length = n) := ⟨_, rfl⟩
  have hD1 := h1.d
  have hP1 := h1.p
  have hM1 := h1.m
  rw [hn.out] at hD1 hn4
  clear h hown hb1 h1
  go_wp2
  go_loopw [11] (MtRel M picks gd gp gm n k cp Y w w1) (fun i _ => N - natOf i)
  case atStart => exact ⟨0, Nat.zero_le _, rfl, hD1, hP1, hM1, ho1, Only.refl _ _⟩
  case round =>
    clear hD1 hP1 hM1 ho1
    obtain ⟨j, hj, rfl, hd, hp, hm, ho, ho1⟩ := hrel
    rw [hN.out] at hj
    by_cases hjn : j < N
    · obtain ⟨i, hi⟩ : ∃ i, M.pending[j]? = some i := ⟨_, List.getElem?_eq_getElem (by rw [hN.out]; exact hjn)⟩
      have hmem := List.mem_of_getElem? hi
      have hil := pending_lt hmem
      have hpe := pending_pend hmem
      obtain ⟨g, rfl, hcell⟩ := own_cell (hoz.out wr ho1) (j := j) (u := .int .i64 (i : Int)) (by unfold pendZ; rw [List.map_map, List.getElem?_map, hi]; rfl)
      have hji : (j : Int) < (N : Int) := by omega
      have hin : i < n := by rw [← hn.out]; exact hil
      have hini : (i : Int) < (n : Int) := by omega
      have hj4 : j < 4096 := by have := hn.out; omega
      obtain ⟨l, hl⟩ : ∃ l, (M.page i).new = some l := by
        unfold Pg.pend at hpe
        cases hx : (M.page i).new with
        | none => rw [hx] at hpe; cases hpe
        | some l => exact ⟨l, rfl⟩
      have hpk2 := DM.page_ok HM.out hil
      have hll : l.length = 128 := hpk2.2 l hl
      have hol : (M.page i).old.length = 128 := hpk2.1
      have HLL := Lib.hid hll
      have hmo := mtTo_ok HM.out picks j (by rw [hN.out]; exact hj)
      have hmi : (mtTo M picks j).image[i]? = some (M.page i).old := by rw [image_at (by rw [mtTo_len]; exact hil), mtTo_at M picks j i hi]
      have hnext : (mtTo M picks (j + 1)).image = (mtTo M picks j).image.set i (l.take (DM.pick picks j) ++ (M.page i).old.drop (DM.pick picks j)) := by
        rw [← mtTo_next M picks j i hi, mtTo_at M picks j i hi, image_set]
        unfold Pg.settle
        rw [hl]
      have hspl : ∀ c, c ≤ 128 → DM.pick picks j = c → splice (pgCells (mtTo M picks j).image ++ Y) (i * 128) ((l.take c).map B8) = pgCells (mtTo M picks (j + 1)).image ++ Y := fun c hc e => by
        rw [hnext, e]
        refine splice_tail Y (pgCells_copy _ (image_128 hmo) i c _ l hmi hol hll hc) ?_
        rw [pgCells_length _ (image_128 hmo), List.length_map, List.length_take, hll]
        have h1 : (mtTo M picks j).image.length = M.ps.length := by unfold DM.image; rw [List.length_map, mtTo_len]
        rw [h1]
        have := hil
        omega
      have hlen : (pgCells (mtTo M picks j).image).length = n * 128 := by
        rw [pgCells_length _ (image_128 hmo), ← hn.out, ← mtTo_len M picks j]
        unfold DM.image; rw [List.length_map]
      have HLEN := Lib.hid hlen
      have hlN : Hid ((l.map B8).length = 128) := by
        have : (l.map B8).length = 128 := by rw [List.length_map]; exact hll
        exact this
      have hlook := run_look hm (DM.page_at hil) (by omega) false
      rw [hl] at hlook
      simp only [Bool.false_eq_true, if_false, Option.getD_some] at hlook
      have c0 := hd.cell (k := 0) rfl
      have c1 := hd.cell (k := 1) rfl
      have HSP := Lib.hid hspl
      have HJ := Lib.hid hj
      clear hmem hil hpe hl hpk2 hll hol hmo hmi hnext hspl hlen hi hj
      by_cases hjq : j < q
      · obtain ⟨x, hx⟩ : ∃ x, picks[j]? = some x := ⟨_, List.getElem?_eq_getElem (by rw [hq.out]; exact hjq)⟩
        obtain ⟨pa, rfl, hpc⟩ := HPK.out wr ho j x hx
        have hjqi : (j : Int) < (q : Int) := by omega
        obtain ⟨pk, hpkc⟩ : ∃ pk, DM.pick picks j = pk := ⟨_, rfl⟩
        have hcx := pick_at picks j x hx
        rw [hpkc] at hcx
        have hc128 : pk ≤ 128 := by unfold clampN at hcx; omega
        have HSPL : Hid (splice (pgCells (mtTo M picks j).image ++ Y) (i * 128) ((l.take pk).map B8) = pgCells (mtTo M picks (j + 1)).image ++ Y) := HSP.out pk hc128 hpkc
        obtain ⟨m, hm0⟩ : ∃ m, Hid (max x 0 = m) := ⟨_, rfl⟩
        have hmc : Hid (min m 128 = (pk : Int)) := by
          have : min m 128 = (pk : Int) := by have := hm0.out; unfold clampN at hcx; omega
          exact this
        have hcut1 := run_cutTo gp (i * 128) pk hc128
        clear hx hcx hpkc
        go_wp2_with (first | (with_reducible refine wpList_maxZ (o := ⟨some 24, .call ⟨.builtin .max, #[.tmp 23, .const (.int .i64 0)], #[3, 3]⟩, _, _, _, _⟩) (by with_unfolding_all rfl) (.tmp 23) (.const (.int .i64 0)) 3 3 (by with_unfolding_all rfl) x 0 m (by with_unfolding_all rfl) (by with_unfolding_all rfl) hm0.out ?_) | (with_reducible refine wpList_minZ (o := ⟨some 25, .call ⟨.builtin .min, #[.tmp 24, .const (.int .i64 128)], #[3, 3]⟩, _, _, _, _⟩) (by with_unfolding_all rfl) (.tmp 24) (.const (.int .i64 128)) 3 3 (by with_unfolding_all rfl) m 128 (pk : Int) (by with_unfolding_all rfl) (by with_unfolding_all rfl) hmc.out ?_) | (with_reducible refine wpList_alloc (o := ⟨some 7, .alloc 108, _, _, _, _⟩) (by with_unfolding_all rfl) 108 (by with_unfolding_all rfl) (.agg (Z128.map B8).toArray) (Z128.map B8) (by exact Try.zeroP) (by with_unfolding_all rfl) ?_))
        intro g7 w2 hg7 hs7 hb7 hB7
        have hle7 : wr.heap.size ≤ g7 := Nat.le_of_eq hg7.out.symm
        go_wp2_with (with_reducible refine wpList_put (o := ⟨none, .store 108 (.tmp 7) (.tmp 31), _, _, _, _⟩) (by with_unfolding_all rfl) 108 (.tmp 7) (.tmp 31) (by with_unfolding_all rfl) g7 0 (by with_unfolding_all rfl) (.agg (l.map B8).toArray) (by with_unfolding_all rfl) hB7 (l.map B8) (by with_unfolding_all rfl) (by rw [hlN.out]; exact Try.sizeP) (by with_unfolding_all (rw [hlN.out, Z128_length]; exact Nat.le_refl _)) (B8_one _) ?_)
        intro w3 hu3 hB3
        rw [splice_all _ _ (by rw [hlN.out, Z128_length])] at hB3
        have hb3 : Below wr.heap.size wr w3 := (hb7.mono hle7).trans (hu3.below (B := wr.heap.size) hle7)
        have hcut2 := run_cutTo g7 0 pk hc128
        clear hg7 hs7 hb7 hB7 hu3 hlook hpc
        have hdd := below_drew w3
        have ho6 := (Only.of_below (L := [gd, gp, gm]) hb3).trans (Only.of_below hdd)
        have hoe := (Only.of_below (L := ([] : List Nat)) hb3).trans (Only.of_below hdd)
        have hp6 := hp.only hoe (by simp)
        have hd6 := hd.only hoe (by simp)
        have hm6 := hm.only hoe (by simp)
        have hB6 := hB3.next hdd hB3.lt
        have hSd := hd6.cell (k := 0) rfl
        have hsrc : ∀ q u, ((l.take pk).map B8)[q]? = some u → w3.drew.cell? ((⟨g7, 0, none⟩ : Addr).add q) = some u := fun q u hu => by
          rw [addr_mid, Nat.zero_add]
          refine hB6.cell ?_
          rw [List.map_take, List.getElem?_take] at hu
          split at hu
          · exact hu
          · cases hu
        clear hp hd hm hB3 hb3 hoe hcell c0 c1
        go_wp2
        refine wp_region_held_drew (S := fun w' => w'.cell? ⟨gd, 0, none⟩ = some (.slice (some ⟨gp, 0, none⟩) n cp)) (by kernel_rfl) hSd (fun hHeld => ?_)
        generalize w3.drew = wd at hdd hHeld hSd hp6 hd6 hm6 ho6 hsrc hB6 ⊢
        refine wpAnyH_take (i := 0) (v := ?vvpk0) rfl (by kernel_rfl) (by kernel_rfl) (by kernel_rfl) (fun _ _ _ h => h) (Or.inl ⟨by rfl, ?yvpk0⟩) (by assumption) ?rvpk0
        case yvpk0 => intro w hSw; (try dsimp only at hSw); go_simp <;> (try with_reducible rfl)
        (try simp only [List.getElem_toArray, List.getElem_cons_zero, Act.put, List.setIfInBounds_toArray, List.set_cons_zero, List.set_cons_succ])
        refine wpAnyH_take (i := 1) (v := ?vvpk1) rfl (by kernel_rfl) (by kernel_rfl) (by kernel_rfl) (fun _ _ _ h => h) (Or.inl ⟨by rfl, ?yvpk1⟩) (by assumption) ?rvpk1
        case yvpk1 => intro w hSw; (try dsimp only at hSw); go_simp <;> (try with_reducible rfl)
        (try simp only [List.getElem_toArray, List.getElem_cons_succ, List.getElem_cons_zero, Act.put, List.setIfInBounds_toArray, List.set_cons_zero, List.set_cons_succ])
        refine wpAnyH_take (i := 2) (v := ?vvpk2) rfl (by kernel_rfl) (by kernel_rfl) (by kernel_rfl) (fun _ _ _ h => h) (Or.inl ⟨by rfl, ?yvpk2⟩) (by assumption) ?rvpk2
        case yvpk2 => intro w hSw; (try dsimp only at hSw); go_simp <;> (try with_reducible rfl)
        (try simp only [List.getElem_toArray, List.getElem_cons_succ, List.getElem_cons_zero, Act.put, List.setIfInBounds_toArray, List.set_cons_zero, List.set_cons_succ])
        refine wpAnyH_take (i := 3) (v := ?vvpk3) rfl (by kernel_rfl) (by kernel_rfl) (by kernel_rfl) (fun _ _ _ h => h) (Or.inl ⟨by rfl, ?yvpk3⟩) (by assumption) ?rvpk3
        case yvpk3 => intro w hSw; (try dsimp only at hSw); go_simp <;> (try with_reducible rfl)
        (try simp only [List.getElem_toArray, List.getElem_cons_succ, List.getElem_cons_zero, Act.put, List.setIfInBounds_toArray, List.set_cons_zero, List.set_cons_succ])
        refine wpAnyH_take (i := 4) (v := ?vvpk4) rfl (by kernel_rfl) (by kernel_rfl) (by kernel_rfl) (fun _ _ _ h => h) (Or.inl ⟨by rfl, ?yvpk4⟩) (by assumption) ?rvpk4
        case yvpk4 => intro w hSw; (try dsimp only at hSw); go_simp <;> (try with_reducible rfl)
        (try simp only [List.getElem_toArray, List.getElem_cons_succ, List.getElem_cons_zero, Act.put, List.setIfInBounds_toArray, List.set_cons_zero, List.set_cons_succ])
        refine wpAnyH_take (i := 5) (v := ?vvpk5) rfl (by kernel_rfl) (by kernel_rfl) (by kernel_rfl) (fun _ _ _ h => h) (Or.inl ⟨by rfl, ?yvpk5⟩) (by assumption) ?rvpk5
        case yvpk5 => intro w hSw; (try dsimp only at hSw); go_simp <;> (try with_reducible rfl)
        (try simp only [List.getElem_toArray, List.getElem_cons_succ, List.getElem_cons_zero, Act.put, List.setIfInBounds_toArray, List.set_cons_zero, List.set_cons_succ])
        refine wpAnyH_take (i := 6) (v := ?vvpk6) rfl (by kernel_rfl) (by kernel_rfl) (by kernel_rfl) (fun _ _ _ h => h) (Or.inl ⟨by rfl, ?yvpk6⟩) (by assumption) ?rvpk6
        case yvpk6 => intro w hSw; (try dsimp only at hSw); go_simp <;> (try with_reducible rfl)
        (try simp only [List.getElem_toArray, List.getElem_cons_succ, List.getElem_cons_zero, Act.put, List.setIfInBounds_toArray, List.set_cons_zero, List.set_cons_succ])
        refine wpAnyH_take (i := 7) (v := ?vvpk7) rfl (by kernel_rfl) (by kernel_rfl) (by kernel_rfl) (fun _ _ _ h => h) (Or.inl ⟨by rfl, ?yvpk7⟩) (by assumption) ?rvpk7
        case yvpk7 => intro w hSw; (try dsimp only at hSw); go_simp <;> (try with_reducible rfl)
        (try simp only [List.getElem_toArray, List.getElem_cons_succ, List.getElem_cons_zero, Act.put, List.setIfInBounds_toArray, List.set_cons_zero, List.set_cons_succ])
        refine wpAnyH_take (i := 8) (v := ?vvpk8) rfl (by kernel_rfl) (by kernel_rfl) (by kernel_rfl) (fun _ _ _ h => h) (Or.inl ⟨by rfl, ?yvpk8⟩) (by assumption) ?rvpk8
        case yvpk8 => intro w hSw; (try dsimp only at hSw); go_simp <;> (try with_reducible rfl)
        (try simp only [List.getElem_toArray, List.getElem_cons_succ, List.getElem_cons_zero, Act.put, List.setIfInBounds_toArray, List.set_cons_zero, List.set_cons_succ])
        refine wpAnyH_take (i := 9) (v := ?vvpk9) rfl (by kernel_rfl) (by kernel_rfl) (by kernel_rfl) (fun _ _ _ h => h) (Or.inl ⟨by rfl, ?yvpk9⟩) (by assumption) ?rvpk9
        case yvpk9 => intro w hSw; (try dsimp only at hSw); go_simp <;> (try with_reducible rfl)
        (try simp only [List.getElem_toArray, List.getElem_cons_succ, List.getElem_cons_zero, Act.put, List.setIfInBounds_toArray, List.set_cons_zero, List.set_cons_succ])
        refine wpAnyH_ready (rs := [10]) (by kernel_rfl) (by simp) ?_
        refine AllReadyH.cons rfl (fun K hK => ?_) AllReadyH.nil
        rw [if_pos (by rfl)]
        refine wp_copyRow (.tmp 39) (.tmp 41) 110 110 rfl 5 Try.underlying110 Try.sz5 gp (i * 128) pk 128 rfl ⟨g7, 0, none⟩ 128 rfl ((l.take pk).map B8) (by rw [List.length_map, List.length_take, HLL.out]; omega) hsrc (B8_one _) hp6 (by rw [List.length_append, HLEN.out]; omega) ?_
        intro w7 hu7 hB7
        rw [HSPL.out] at hB7
        have ho7 : Only [gp] wd w7 := Only.of_upd hu7 (by simp)
        have hd7 := hd6.only ho7 (by simpa using hn1)
        have hm7 := hm6.only ho7 (by simpa using hn3.symm)
        have hoA := ho.trans (ho6.trans (ho7.mono (by simp)))
        have hoB := ho1.trans (ho6.trans (ho7.mono (by simp)))
        refine hK.out _ _ (hd7.cell (k := 0) rfl) (fun hHeld => ?_)
        clear hK K hHeld hp6 hd6 hm6 ho6 hsrc hB6 hu7 ho7 hSd hdd ho ho1
        refine wpAnyH_done (by kernel_rfl) ?_ _
        go_wp2
        go_roundw
        case rel =>
          have hR : MtRel M picks gd gp gm n k cp Y w w1 (.int .i64 ((j : Int) + 1)) w7 := ⟨j + 1, by rw [hN.out]; omega, by go_num, hd7, hB7, hm7, hoA, hoB⟩
          first | exact hR | ((repeat apply Exists.intro); exact ⟨hR, rfl⟩)
        case measure => simp [natOf]; omega
      · have hjqi : (q : Int) ≤ (j : Int) := by omega
        have HSPL : Hid (splice (pgCells (mtTo M picks j).image ++ Y) (i * 128) ((l.take 128).map B8) = pgCells (mtTo M picks (j + 1)).image ++ Y) := HSP.out 128 (Nat.le_refl _) ((pick_past picks j (by rw [hq.out]; omega)).symm.trans clampN_128)
        have hcut1 : ∀ w : World, (Instr.sliceAt 108 (.pointer (some ⟨gp, i * 128, none⟩)) none (some (.int .i64 128)) none).run Try.prog w = .ok (.slice (some ⟨gp, i * 128, none⟩) 128 128) w := fun w => run_cutTo gp (i * 128) 128 (Nat.le_refl _) w
        go_wp2_with (with_reducible refine wpList_alloc (o := ⟨some 7, .alloc 108, _, _, _, _⟩) (by with_unfolding_all rfl) 108 (by with_unfolding_all rfl) (.agg (Z128.map B8).toArray) (Z128.map B8) (by exact Try.zeroP) (by with_unfolding_all rfl) ?_)
        intro g7 w2 hg7 hs7 hb7 hB7
        have hle7 : wr.heap.size ≤ g7 := Nat.le_of_eq hg7.out.symm
        go_wp2_with (with_reducible refine wpList_put (o := ⟨none, .store 108 (.tmp 7) (.tmp 31), _, _, _, _⟩) (by with_unfolding_all rfl) 108 (.tmp 7) (.tmp 31) (by with_unfolding_all rfl) g7 0 (by with_unfolding_all rfl) (.agg (l.map B8).toArray) (by with_unfolding_all rfl) hB7 (l.map B8) (by with_unfolding_all rfl) (by rw [hlN.out]; exact Try.sizeP) (by with_unfolding_all (rw [hlN.out, Z128_length]; exact Nat.le_refl _)) (B8_one _) ?_)
        intro w3 hu3 hB3
        rw [splice_all _ _ (by rw [hlN.out, Z128_length])] at hB3
        have hb3 : Below wr.heap.size wr w3 := (hb7.mono hle7).trans (hu3.below (B := wr.heap.size) hle7)
        have hcut2 : ∀ w : World, (Instr.sliceAt 108 (.pointer (some ⟨g7, 0, none⟩)) none (some (.int .i64 128)) none).run Try.prog w = .ok (.slice (some ⟨g7, 0, none⟩) 128 128) w := fun w => run_cutTo g7 0 128 (Nat.le_refl _) w
        clear hg7 hs7 hb7 hB7 hu3 hlook
        have hdd := below_drew w3
        have ho6 := (Only.of_below (L := [gd, gp, gm]) hb3).trans (Only.of_below hdd)
        have hoe := (Only.of_below (L := ([] : List Nat)) hb3).trans (Only.of_below hdd)
        have hp6 := hp.only hoe (by simp)
        have hd6 := hd.only hoe (by simp)
        have hm6 := hm.only hoe (by simp)
        have hB6 := hB3.next hdd hB3.lt
        have hSd := hd6.cell (k := 0) rfl
        have hsrc : ∀ q u, ((l.take 128).map B8)[q]? = some u → w3.drew.cell? ((⟨g7, 0, none⟩ : Addr).add q) = some u := fun q u hu => by
          rw [addr_mid, Nat.zero_add]
          refine hB6.cell ?_
          rw [List.map_take, List.getElem?_take] at hu
          split at hu
          · exact hu
          · cases hu
        clear hp hd hm hB3 hb3 hoe hcell c0 c1
        go_wp2
        refine wp_region_held_drew (S := fun w' => w'.cell? ⟨gd, 0, none⟩ = some (.slice (some ⟨gp, 0, none⟩) n cp)) (by kernel_rfl) hSd (fun hHeld => ?_)
        generalize w3.drew = wd at hdd hHeld hSd hp6 hd6 hm6 ho6 hsrc hB6 ⊢
        refine wpAnyH_take (i := 0) (v := ?vv1280) rfl (by kernel_rfl) (by kernel_rfl) (by kernel_rfl) (fun _ _ _ h => h) (Or.inl ⟨by rfl, ?yv1280⟩) (by assumption) ?rv1280
        case yv1280 => intro w hSw; (try dsimp only at hSw); go_simp <;> (try with_reducible rfl)
        (try simp only [List.getElem_toArray, List.getElem_cons_zero, Act.put, List.setIfInBounds_toArray, List.set_cons_zero, List.set_cons_succ])
        refine wpAnyH_take (i := 1) (v := ?vv1281) rfl (by kernel_rfl) (by kernel_rfl) (by kernel_rfl) (fun _ _ _ h => h) (Or.inl ⟨by rfl, ?yv1281⟩) (by assumption) ?rv1281
        case yv1281 => intro w hSw; (try dsimp only at hSw); go_simp <;> (try with_reducible rfl)
        (try simp only [List.getElem_toArray, List.getElem_cons_succ, List.getElem_cons_zero, Act.put, List.setIfInBounds_toArray, List.set_cons_zero, List.set_cons_succ])
        refine wpAnyH_take (i := 2) (v := ?vv1282) rfl (by kernel_rfl) (by kernel_rfl) (by kernel_rfl) (fun _ _ _ h => h) (Or.inl ⟨by rfl, ?yv1282⟩) (by assumption) ?rv1282
        case yv1282 => intro w hSw; (try dsimp only at hSw); go_simp <;> (try with_reducible rfl)
        (try simp only [List.getElem_toArray, List.getElem_cons_succ, List.getElem_cons_zero, Act.put, List.setIfInBounds_toArray, List.set_cons_zero, List.set_cons_succ])
        refine wpAnyH_take (i := 3) (v := ?vv1283) rfl (by kernel_rfl) (by kernel_rfl) (by kernel_rfl) (fun _ _ _ h => h) (Or.inl ⟨by rfl, ?yv1283⟩) (by assumption) ?rv1283
        case yv1283 => intro w hSw; (try dsimp only at hSw); go_simp <;> (try with_reducible rfl)
        (try simp only [List.getElem_toArray, List.getElem_cons_succ, List.getElem_cons_zero, Act.put, List.setIfInBounds_toArray, List.set_cons_zero, List.set_cons_succ])
        refine wpAnyH_take (i := 4) (v := ?vv1284) rfl (by kernel_rfl) (by kernel_rfl) (by kernel_rfl) (fun _ _ _ h => h) (Or.inl ⟨by rfl, ?yv1284⟩) (by assumption) ?rv1284
        case yv1284 => intro w hSw; (try dsimp only at hSw); go_simp <;> (try with_reducible rfl)
        (try simp only [List.getElem_toArray, List.getElem_cons_succ, List.getElem_cons_zero, Act.put, List.setIfInBounds_toArray, List.set_cons_zero, List.set_cons_succ])
        refine wpAnyH_take (i := 5) (v := ?vv1285) rfl (by kernel_rfl) (by kernel_rfl) (by kernel_rfl) (fun _ _ _ h => h) (Or.inl ⟨by rfl, ?yv1285⟩) (by assumption) ?rv1285
        case yv1285 => intro w hSw; (try dsimp only at hSw); go_simp <;> (try with_reducible rfl)
        (try simp only [List.getElem_toArray, List.getElem_cons_succ, List.getElem_cons_zero, Act.put, List.setIfInBounds_toArray, List.set_cons_zero, List.set_cons_succ])
        refine wpAnyH_take (i := 6) (v := ?vv1286) rfl (by kernel_rfl) (by kernel_rfl) (by kernel_rfl) (fun _ _ _ h => h) (Or.inl ⟨by rfl, ?yv1286⟩) (by assumption) ?rv1286
        case yv1286 => intro w hSw; (try dsimp only at hSw); go_simp <;> (try with_reducible rfl)
        (try simp only [List.getElem_toArray, List.getElem_cons_succ, List.getElem_cons_zero, Act.put, List.setIfInBounds_toArray, List.set_cons_zero, List.set_cons_succ])
        refine wpAnyH_take (i := 7) (v := ?vv1287) rfl (by kernel_rfl) (by kernel_rfl) (by kernel_rfl) (fun _ _ _ h => h) (Or.inl ⟨by rfl, ?yv1287⟩) (by assumption) ?rv1287
        case yv1287 => intro w hSw; (try dsimp only at hSw); go_simp <;> (try with_reducible rfl)
        (try simp only [List.getElem_toArray, List.getElem_cons_succ, List.getElem_cons_zero, Act.put, List.setIfInBounds_toArray, List.set_cons_zero, List.set_cons_succ])
        refine wpAnyH_take (i := 8) (v := ?vv1288) rfl (by kernel_rfl) (by kernel_rfl) (by kernel_rfl) (fun _ _ _ h => h) (Or.inl ⟨by rfl, ?yv1288⟩) (by assumption) ?rv1288
        case yv1288 => intro w hSw; (try dsimp only at hSw); go_simp <;> (try with_reducible rfl)
        (try simp only [List.getElem_toArray, List.getElem_cons_succ, List.getElem_cons_zero, Act.put, List.setIfInBounds_toArray, List.set_cons_zero, List.set_cons_succ])
        refine wpAnyH_take (i := 9) (v := ?vv1289) rfl (by kernel_rfl) (by kernel_rfl) (by kernel_rfl) (fun _ _ _ h => h) (Or.inl ⟨by rfl, ?yv1289⟩) (by assumption) ?rv1289
        case yv1289 => intro w hSw; (try dsimp only at hSw); go_simp <;> (try with_reducible rfl)
        (try simp only [List.getElem_toArray, List.getElem_cons_succ, List.getElem_cons_zero, Act.put, List.setIfInBounds_toArray, List.set_cons_zero, List.set_cons_succ])
        refine wpAnyH_ready (rs := [10]) (by kernel_rfl) (by simp) ?_
        refine AllReadyH.cons rfl (fun K hK => ?_) AllReadyH.nil
        rw [if_pos (by rfl)]
        refine wp_copyRow (.tmp 39) (.tmp 41) 110 110 rfl 5 Try.underlying110 Try.sz5 gp (i * 128) 128 128 rfl ⟨g7, 0, none⟩ 128 rfl ((l.take 128).map B8) (by rw [List.length_map, List.length_take, HLL.out]; omega) hsrc (B8_one _) hp6 (by rw [List.length_append, HLEN.out]; omega) ?_
        intro w7 hu7 hB7
        rw [HSPL.out] at hB7
        have ho7 : Only [gp] wd w7 := Only.of_upd hu7 (by simp)
        have hd7 := hd6.only ho7 (by simpa using hn1)
        have hm7 := hm6.only ho7 (by simpa using hn3.symm)
        have hoA := ho.trans (ho6.trans (ho7.mono (by simp)))
        have hoB := ho1.trans (ho6.trans (ho7.mono (by simp)))
        refine hK.out _ _ (hd7.cell (k := 0) rfl) (fun hHeld => ?_)
        clear hK K hHeld hp6 hd6 hm6 ho6 hsrc hB6 hu7 ho7 hSd hdd ho ho1
        refine wpAnyH_done (by kernel_rfl) ?_ _
        go_wp2
        go_roundw
        case rel =>
          have hR : MtRel M picks gd gp gm n k cp Y w w1 (.int .i64 ((j : Int) + 1)) w7 := ⟨j + 1, by rw [hN.out]; omega, by go_num, hd7, hB7, hm7, hoA, hoB⟩
          first | exact hR | ((repeat apply Exists.intro); exact ⟨hR, rfl⟩)
        case measure => simp [natOf]; omega
    · obtain rfl : j = N := by omega
      have himg : Hid ((mtTo M picks j).image = (M.mount picks).image) := by
        have : (mtTo M picks j).image = (M.mount picks).image := by rw [← hN.out]; rfl
        exact this
      rw [himg.out] at hp
      have hml : Hid ((M.mount picks).ps.length = n) := by
        have : (M.mount picks).ps.length = n := by rw [← hn.out]; exact mtTo_len M picks M.pending.length
        exact this
      obtain ⟨w4, hclr, hm4, hg4⟩ := run_clear hm 0
      have ho4 : Only [gm] wr w4 := Only.of_grown hg4 (by simp)
      have hd4 := hd.only ho4 (by simpa using hn2)
      have hp4 := hp.only ho4 (by simpa using hn3)
      have hmz := (hm4 _ (mount_none M picks)).mono (Nat.zero_le k)
      have hoz4 := ho.trans (ho4.mono (by simp) : Only [gd, gp, gm] wr w4)
      have c1 := hd.cell (k := 1) rfl
      obtain ⟨u, hu⟩ : ∃ u, M.up = u := ⟨_, rfl⟩
      obtain ⟨t, ht⟩ : ∃ t, M.trip = t := ⟨_, rfl⟩
      rw [hu, ht] at hd4
      have c0 := hd.cell (k := 0) rfl
      clear hd hp hm hm4 hg4 ho ho1 ho4 hjn hj hoz hu ht
      go_wp2_with (with_reducible refine wpList_put (o := ⟨none, .store 4 (.tmp 51) (.const (.bool true)), _, _, _, _⟩) (by with_unfolding_all rfl) 4 (.tmp 51) (.const (.bool true)) (by with_unfolding_all rfl) gd 2 (by with_unfolding_all rfl) (.bool true) (by with_unfolding_all rfl) hd4 [(.bool true)] (by with_unfolding_all rfl) (by with_unfolding_all exact Try.sz4) (by with_unfolding_all simp) (by with_unfolding_all exact one_cell1 rfl) ?_)
      intro w5 hu5 hB5
      have hB5' : Blk w5 gd 105 [.slice (some ⟨gp, 0, none⟩) n cp, .map (some gm), .bool true, .int .i64 t] := hB5
      clear hd4 hB5 hclr c0 c1
      go_wp2_with (with_reducible refine wpList_put (o := ⟨none, .store 3 (.tmp 53) (.const (.int .i64 (-1))), _, _, _, _⟩) (by with_unfolding_all rfl) 3 (.tmp 53) (.const (.int .i64 (-1))) (by with_unfolding_all rfl) gd 3 (by with_unfolding_all rfl) (.int .i64 (-1)) (by with_unfolding_all rfl) hB5' [(.int .i64 (-1))] (by with_unfolding_all rfl) (by with_unfolding_all exact Try.sz3) (by with_unfolding_all simp) (by with_unfolding_all exact one_cell1 rfl) ?_)
      intro w6 hu6 hB6
      have hou := hu5.trans hu6
      have hof : Only [gd] w4 w6 := Only.of_upd hou (by simp)
      have h6 : PRep w6 gd gp gm cp Y (M.mount picks) k := ⟨by rw [hml.out]; exact hB6, hp4.only hof (by simpa using hn1.symm), hmz.only hof (by simpa using hn2.symm), hn1, hn2, hn3⟩
      have ho6 := hoz4.trans (hof.mono (by simp))
      clear hB5' hB6 hp4 hmz hu5 hu6 hou hof hoz4
      go_wp2
      go_end0
      exact ⟨rfl, h6, ho6⟩
end Go.Proofs.Ythgmlopkcgkjlaa

/-
  Contract of the walk over the law package's do. Conditions: the record holds the disk, the picks lie elsewhere.
-/
namespace Go.Proofs.Ythgmlopkcgkjlaa
open Go.RowKit

set_option maxRecDepth 100000 in
set_option maxHeartbeats 3200000 in
theorem do_any (gd gp gm k cp : Nat) (Y : List Value) (M : DM) (kind i at_ : Int) (tx : ByteArray) (A : Option Addr) (pc : Nat) (picks : List Int) (w : World) (hM : M.ok) (hi : inI i) (hat : inI at_) (htx : tx.size ≤ 1000000) (hpl : picks.length ≤ 1000000) (hk0 : k ≤ 1000000) (h : PRep w gd gp gm cp Y M k) (hpk : ∀ w', Only [gd, gp, gm] w w' → PkAt w' A picks) :
    Calls Try.prog 18 #[.pointer (some ⟨gd, 0, none⟩), .agg #[.int .i64 kind, .int .i64 i, .int .i64 at_, .string tx, .slice A picks.length pc]] w fun e w' => e = .returned (.tuple #[S8 (M.doS ⟨kind, i, at_, tx, picks⟩), .int .i64 (M.doE ⟨kind, i, at_, tx, picks⟩)]) ∧ PRep w' gd gp gm cp Y (M.doM ⟨kind, i, at_, tx, picks⟩) (k + 1) ∧ Only [gd, gp, gm] w w' := by
  have HH := Lib.hid h
  have HM := Lib.hid hM
  have HI := Lib.hid hi
  have HA := Lib.hid hat
  have HPK := Lib.hid hpk
  obtain ⟨q, hq⟩ : ∃ q, Hid (picks.length = q) := ⟨_, rfl⟩
  rw [hq.out]
  rw [hq.out] at hpl
  clear h hM hi hat
  by_cases hk : kind = 1
  · subst hk
    clear hpk
    go_enter Try.func18, Try.ntmps18
    go_wp2_with (with_reducible refine wpList_box (o := ⟨some 3, .box 34 (.tmp 1), _, _, _, _⟩) ?g2 34 (.tmp 1) ?o2 (.agg #[.int .i64 1, .int .i64 i, .int .i64 at_, .string tx, .slice A q pc]) [.int .i64 1, .int .i64 i, .int .i64 at_, .string tx, .slice A q pc] ?x2 ?c2 ?_)
    try (case g2 => rfl)
    try (case o2 => rfl)
    try (case x2 => rfl)
    try (case c2 => rfl)
    intro gb w1 hgb hs1 hb1 hB1
    have hbel : Below w.heap.size w w1 := hb1.mono (Nat.le_of_eq hgb.out.symm)
    have k0 := hB1.cell (k := 0) rfl
    have k1 := hB1.cell (k := 1) rfl
    have k2 := hB1.cell (k := 2) rfl
    have k3 := hB1.cell (k := 3) rfl
    have k4 := hB1.cell (k := 4) rfl
    have h1 := HH.out.next hbel
    have ho1 : Only [gd, gp, gm] w w1 := Only.of_below hbel
    clear hb1 hB1 hgb hs1
    go_wp2_with fail
    (with_reducible refine (read_any gd gp gm k cp Y M _ _ _ _ HM.out rfl rfl h1).mono ?_)
    rintro e w2 ⟨rfl, hbr⟩
    have h2 := (h1.next hbr).mono (Nat.le_succ k)
    have hoz := ho1.trans (Only.of_below hbr)
    have h3 : PRep w2 gd gp gm cp Y _ (k + 1) := h2.mono (by omega)
    clear k0 k1 k2 k3 k4 h1 ho1 h2
    go_wp2
    go_ret2
    exact ⟨rfl, h3, hoz⟩
  · have hn1 : (kind == 1) = false := beq_eq_false_iff_ne.2 hk
    have hm1 := hk
    by_cases hk : kind = 2
    · subst hk
      clear hpk
      go_enter Try.func18, Try.ntmps18
      go_wp2_with (with_reducible refine wpList_box (o := ⟨some 3, .box 34 (.tmp 1), _, _, _, _⟩) ?g2 34 (.tmp 1) ?o2 (.agg #[.int .i64 2, .int .i64 i, .int .i64 at_, .string tx, .slice A q pc]) [.int .i64 2, .int .i64 i, .int .i64 at_, .string tx, .slice A q pc] ?x2 ?c2 ?_)
      try (case g2 => rfl)
      try (case o2 => rfl)
      try (case x2 => rfl)
      try (case c2 => rfl)
      intro gb w1 hgb hs1 hb1 hB1
      have hbel : Below w.heap.size w w1 := hb1.mono (Nat.le_of_eq hgb.out.symm)
      have k0 := hB1.cell (k := 0) rfl
      have k1 := hB1.cell (k := 1) rfl
      have k2 := hB1.cell (k := 2) rfl
      have k3 := hB1.cell (k := 3) rfl
      have k4 := hB1.cell (k := 4) rfl
      have h1 := HH.out.next hbel
      have ho1 : Only [gd, gp, gm] w w1 := Only.of_below hbel
      clear hb1 hB1 hgb hs1
      go_wp2_with fail
      (with_reducible refine (write_any gd gp gm k cp Y M _ _ _ _ HM.out htx hk0 h1).mono ?_)
      rintro e w2 ⟨rfl, h2, ho2⟩
      have hoz := ho1.trans (ho2.mono (by simp))
      have h3 : PRep w2 gd gp gm cp Y _ (k + 1) := h2.mono (by omega)
      clear k0 k1 k2 k3 k4 h1 ho1 h2
      go_wp2
      go_ret2
      exact ⟨rfl, h3, hoz⟩
    · have hn2 : (kind == 2) = false := beq_eq_false_iff_ne.2 hk
      have hm2 := hk
      by_cases hk : kind = 3
      · subst hk
        clear hpk
        go_enter Try.func18, Try.ntmps18
        go_wp2_with (with_reducible refine wpList_box (o := ⟨some 3, .box 34 (.tmp 1), _, _, _, _⟩) ?g2 34 (.tmp 1) ?o2 (.agg #[.int .i64 3, .int .i64 i, .int .i64 at_, .string tx, .slice A q pc]) [.int .i64 3, .int .i64 i, .int .i64 at_, .string tx, .slice A q pc] ?x2 ?c2 ?_)
        try (case g2 => rfl)
        try (case o2 => rfl)
        try (case x2 => rfl)
        try (case c2 => rfl)
        intro gb w1 hgb hs1 hb1 hB1
        have hbel : Below w.heap.size w w1 := hb1.mono (Nat.le_of_eq hgb.out.symm)
        have k0 := hB1.cell (k := 0) rfl
        have k1 := hB1.cell (k := 1) rfl
        have k2 := hB1.cell (k := 2) rfl
        have k3 := hB1.cell (k := 3) rfl
        have k4 := hB1.cell (k := 4) rfl
        have h1 := HH.out.next hbel
        have ho1 : Only [gd, gp, gm] w w1 := Only.of_below hbel
        clear hb1 hB1 hgb hs1
        go_wp2_with fail
        (with_reducible refine (flush_any gd gp gm k cp Y M _ HM.out h1).mono ?_)
        rintro e w2 ⟨rfl, h2, ho2⟩
        have hoz := ho1.trans ho2
        have h3 : PRep w2 gd gp gm cp Y _ (k + 1) := h2.mono (by omega)
        clear k0 k1 k2 k3 k4 h1 ho1 h2
        go_wp2
        go_ret2
        exact ⟨rfl, h3, hoz⟩
      · have hn3 : (kind == 3) = false := beq_eq_false_iff_ne.2 hk
        have hm3 := hk
        by_cases hk : kind = 4
        · subst hk
          clear hpk
          go_enter Try.func18, Try.ntmps18
          go_wp2_with (with_reducible refine wpList_box (o := ⟨some 3, .box 34 (.tmp 1), _, _, _, _⟩) ?g2 34 (.tmp 1) ?o2 (.agg #[.int .i64 4, .int .i64 i, .int .i64 at_, .string tx, .slice A q pc]) [.int .i64 4, .int .i64 i, .int .i64 at_, .string tx, .slice A q pc] ?x2 ?c2 ?_)
          try (case g2 => rfl)
          try (case o2 => rfl)
          try (case x2 => rfl)
          try (case c2 => rfl)
          intro gb w1 hgb hs1 hb1 hB1
          have hbel : Below w.heap.size w w1 := hb1.mono (Nat.le_of_eq hgb.out.symm)
          have k0 := hB1.cell (k := 0) rfl
          have k1 := hB1.cell (k := 1) rfl
          have k2 := hB1.cell (k := 2) rfl
          have k3 := hB1.cell (k := 3) rfl
          have k4 := hB1.cell (k := 4) rfl
          have h1 := HH.out.next hbel
          have ho1 : Only [gd, gp, gm] w w1 := Only.of_below hbel
          clear hb1 hB1 hgb hs1
          go_wp2_with fail
          (with_reducible refine (trip_any gd gp gm k cp Y M _ _ HI.out.lo HI.out.hi h1).mono ?_)
          rintro e w2 ⟨rfl, h2, ho2⟩
          have hoz := ho1.trans (ho2.mono (by simp))
          have h3 : PRep w2 gd gp gm cp Y _ (k + 1) := h2.mono (by omega)
          clear k0 k1 k2 k3 k4 h1 ho1 h2
          go_wp2
          go_ret2
          exact ⟨rfl, h3, hoz⟩
        · have hn4 : (kind == 4) = false := beq_eq_false_iff_ne.2 hk
          have hm4 := hk
          by_cases hk : kind = 5
          · subst hk
            clear hpk
            go_enter Try.func18, Try.ntmps18
            go_wp2_with (with_reducible refine wpList_box (o := ⟨some 3, .box 34 (.tmp 1), _, _, _, _⟩) ?g2 34 (.tmp 1) ?o2 (.agg #[.int .i64 5, .int .i64 i, .int .i64 at_, .string tx, .slice A q pc]) [.int .i64 5, .int .i64 i, .int .i64 at_, .string tx, .slice A q pc] ?x2 ?c2 ?_)
            try (case g2 => rfl)
            try (case o2 => rfl)
            try (case x2 => rfl)
            try (case c2 => rfl)
            intro gb w1 hgb hs1 hb1 hB1
            have hbel : Below w.heap.size w w1 := hb1.mono (Nat.le_of_eq hgb.out.symm)
            have k0 := hB1.cell (k := 0) rfl
            have k1 := hB1.cell (k := 1) rfl
            have k2 := hB1.cell (k := 2) rfl
            have k3 := hB1.cell (k := 3) rfl
            have k4 := hB1.cell (k := 4) rfl
            have h1 := HH.out.next hbel
            have ho1 : Only [gd, gp, gm] w w1 := Only.of_below hbel
            clear hb1 hB1 hgb hs1
            go_wp2_with fail
            rw [← hq.out]
            (with_reducible refine (mount_any gd gp gm k cp Y M A pc picks _ HM.out h1 (by rw [hq.out]; exact hpl) (fun w' ho => HPK.out w' (ho1.trans ho))).mono ?_)
            rintro e w2 ⟨rfl, h2, ho2⟩
            have hoz := ho1.trans ho2
            have h3 : PRep w2 gd gp gm cp Y _ (k + 1) := h2.mono (by omega)
            clear k0 k1 k2 k3 k4 h1 ho1 h2
            go_wp2
            go_ret2
            exact ⟨rfl, h3, hoz⟩
          · have hn5 : (kind == 5) = false := beq_eq_false_iff_ne.2 hk
            have hm5 := hk
            by_cases hk : kind = 6
            · subst hk
              clear hpk
              go_enter Try.func18, Try.ntmps18
              go_wp2_with (with_reducible refine wpList_box (o := ⟨some 3, .box 34 (.tmp 1), _, _, _, _⟩) ?g2 34 (.tmp 1) ?o2 (.agg #[.int .i64 6, .int .i64 i, .int .i64 at_, .string tx, .slice A q pc]) [.int .i64 6, .int .i64 i, .int .i64 at_, .string tx, .slice A q pc] ?x2 ?c2 ?_)
              try (case g2 => rfl)
              try (case o2 => rfl)
              try (case x2 => rfl)
              try (case c2 => rfl)
              intro gb w1 hgb hs1 hb1 hB1
              have hbel : Below w.heap.size w w1 := hb1.mono (Nat.le_of_eq hgb.out.symm)
              have k0 := hB1.cell (k := 0) rfl
              have k1 := hB1.cell (k := 1) rfl
              have k2 := hB1.cell (k := 2) rfl
              have k3 := hB1.cell (k := 3) rfl
              have k4 := hB1.cell (k := 4) rfl
              have h1 := HH.out.next hbel
              have ho1 : Only [gd, gp, gm] w w1 := Only.of_below hbel
              clear hb1 hB1 hgb hs1
              go_wp2_with fail
              (with_reducible refine (rot_any gd gp gm k cp Y M _ _ _ HM.out h1).mono ?_)
              rintro e w2 ⟨rfl, h2, ho2⟩
              have hoz := ho1.trans (ho2.mono (by simp))
              have h3 : PRep w2 gd gp gm cp Y _ (k + 1) := h2.mono (by omega)
              clear k0 k1 k2 k3 k4 h1 ho1 h2
              go_wp2
              go_ret2
              exact ⟨rfl, h3, hoz⟩
            · have hn6 : (kind == 6) = false := beq_eq_false_iff_ne.2 hk
              have hm6 := hk
              have es : M.doS ⟨kind, i, at_, tx, picks⟩ = [] := by unfold DM.doS; rw [if_neg hm1]
              have ee : M.doE ⟨kind, i, at_, tx, picks⟩ = 0 := by unfold DM.doE; rw [if_neg hm1, if_neg hm2, if_neg hm3, if_neg hm6]
              have em : M.doM ⟨kind, i, at_, tx, picks⟩ = M := by unfold DM.doM; rw [if_neg hm2, if_neg hm3, if_neg hm4, if_neg hm5, if_neg hm6]
              rw [es, ee, em]
              clear hk hm1 hm2 hm3 hm4 hm5 hm6 hpk es ee em
              go_enter Try.func18, Try.ntmps18
              go_wp2_with (with_reducible refine wpList_box (o := ⟨some 3, .box 34 (.tmp 1), _, _, _, _⟩) ?g2 34 (.tmp 1) ?o2 (.agg #[.int .i64 kind, .int .i64 i, .int .i64 at_, .string tx, .slice A q pc]) [.int .i64 kind, .int .i64 i, .int .i64 at_, .string tx, .slice A q pc] ?x2 ?c2 ?_)
              try (case g2 => rfl)
              try (case o2 => rfl)
              try (case x2 => rfl)
              try (case c2 => rfl)
              intro gb w1 hgb hs1 hb1 hB1
              have hbel : Below w.heap.size w w1 := hb1.mono (Nat.le_of_eq hgb.out.symm)
              have k0 := hB1.cell (k := 0) rfl
              have k1 := hB1.cell (k := 1) rfl
              have k2 := hB1.cell (k := 2) rfl
              have k3 := hB1.cell (k := 3) rfl
              have k4 := hB1.cell (k := 4) rfl
              have h1 := HH.out.next hbel
              have ho1 : Only [gd, gp, gm] w w1 := Only.of_below hbel
              clear hb1 hB1 hgb hs1
              clear k1 k2 k3 k4
              go_wp2
              go_ret2
              exact ⟨rfl, h1.mono (Nat.le_succ k), ho1⟩
end Go.Proofs.Ythgmlopkcgkjlaa

/-
  Contract of the walk over the law package's same, where both sides hold the same disk. Conditions: the records hold it.
-/
namespace Go.Proofs.Ythgmlopkcgkjlaa
open Go.RowKit

theorem S8_map (L : List (List UInt8)) : L.map S8 = (L.map fun l => (⟨l.toArray⟩ : ByteArray)).map Value.string := by rw [List.map_map]; rfl
set_option maxRecDepth 100000 in
set_option maxHeartbeats 1600000 in
theorem same_eq (gd gp gm k cp gr ga cap : Nat) (Y : List Value) (X : List Value) (M : DM) (w : World) (hM : M.ok) (h : PRep w gd gp gm cp Y M k) (hr : RRep w gr ga cap X M) :
    Calls Try.prog 20 #[.pointer (some ⟨gd, 0, none⟩), .pointer (some ⟨gr, 0, none⟩)] w fun e w' => e = .returned (.bool true) ∧ Below w.heap.size w w' := by
  have HM := Lib.hid hM
  have HN := Lib.hid hM.2.2.2
  obtain ⟨n, hn⟩ : ∃ n, Hid (M.ps.length = n) := ⟨_, rfl⟩
  obtain ⟨u, hu⟩ : ∃ u, Hid (M.up = u) := ⟨_, rfl⟩
  clear hM
  go_enter Try.func20, Try.ntmps20
  go_wp2_with fail
  (with_reducible refine (len_any gd gp gm k cp Y M _ h).mono ?_)
  rintro e w' ⟨rfl, rfl⟩
  rw [hn.out]
  go_wp2_with fail
  (with_reducible refine (rlen_any gr ga cap X M _ hr).mono ?_)
  rintro e w' ⟨rfl, rfl⟩
  rw [hn.out]
  go_wp2_with fail
  (with_reducible refine (up_any gd gp gm k cp Y M _ h).mono ?_)
  rintro e w' ⟨rfl, rfl⟩
  rw [hu.out]
  go_wp2_with fail
  (with_reducible refine (rup_any gr ga cap X M _ hr).mono ?_)
  rintro e w' ⟨rfl, rfl⟩
  rw [hu.out]
  go_wp2_with fail
  (with_reducible refine (image_any gd gp gm k cp Y M _ HM.out h).mono ?_)
  rintro e w1 ⟨gi, rfl, hB, hb1, _⟩
  have h1 := h.next hb1
  have hr1 := hr.next hb1
  clear h hr
  go_wp2_with fail
  (with_reducible refine (rimage_any gr ga cap X M _ HN.out hr1).mono ?_)
  rintro e w2 ⟨v, rfl, hown, hb2⟩
  obtain ⟨A, c, rfl⟩ := own_shape hown
  have h2 := h1.next hb2
  have hr2 := hr1.next hb2
  have hbA := below_join hb1 hb2
  have r1 := RowAt.of_blk (hB.next hb2 hB.lt)
  have r2 := RowAt.of_own hown
  rw [S8_map] at r1 r2
  have hlen : (M.image.map fun l => (⟨l.toArray⟩ : ByteArray)).length = M.ps.length := by unfold DM.image; rw [List.length_map, List.length_map]
  obtain ⟨LS, hLS⟩ : ∃ LS, Hid ((M.image.map fun l => (⟨l.toArray⟩ : ByteArray)) = LS) := ⟨_, rfl⟩
  rw [hLS.out] at r1 r2 hlen
  have HL := Lib.hid hlen
  have HL2 : Hid (LS.length ≤ 1000000) := by
    have : LS.length ≤ 1000000 := by rw [HL.out]; have := HN.out; omega
    exact this
  rw [← HL.out]
  clear h1 hr1 hB hb1 hb2 hown hlen
  go_wp2_with fail
  (with_reducible refine (sameTexts_eq _ A _ c LS _ HL2.out r1 r2).mono ?_)
  rintro e w3 ⟨rfl, hb3⟩
  have h3 := h2.next hb3
  have hr3 := hr2.next hb3
  have hbB := below_join hbA hb3
  clear h2 hr2 r1 r2 hb3 hbA
  go_wp2_with fail
  (with_reducible refine (pending_any gd gp gm k cp Y M _ HM.out h3).mono ?_)
  rintro e w4 ⟨v4, rfl, hown4, _, hb4⟩
  obtain ⟨A4, c4, rfl⟩ := own_shape hown4
  have h4 := h3.next hb4
  have hr4 := hr3.next hb4
  have hbC := below_join hbB hb4
  clear h3 hr3 hb4 hbB
  go_wp2_with fail
  (with_reducible refine (rpending_any gr ga cap X M _ HN.out hr4).mono ?_)
  rintro e w5 ⟨v5, rfl, hown5, hb5⟩
  obtain ⟨A5, c5, rfl⟩ := own_shape hown5
  have q1 : RowAt w5 A4 ((pendZ M).map (Value.int .i64)) := (RowAt.of_own hown4).next hb5
  have q2 : RowAt w5 A5 ((pendZ M).map (Value.int .i64)) := RowAt.of_own hown5
  have hbD := below_join hbC hb5
  have HP2 : Hid ((pendZ M).length ≤ 1000000) := by
    have : (pendZ M).length ≤ 1000000 := by rw [pendZ_length]; have := pending_le M; have := HN.out; omega
    exact this
  rw [← pendZ_length]
  clear h4 hr4 hown4 hown5 hb5 hbC
  go_wp2_with fail
  (with_reducible refine (sameInts_eq A4 A5 c4 c5 (pendZ M) _ HP2.out q1 q2).mono ?_)
  rintro e w6 ⟨rfl, hb6⟩
  have hbE := below_join hbD hb6
  clear q1 q2 hbD hb6
  go_wp2
  go_ret
  exact ⟨rfl, hbE⟩
end Go.Proofs.Ythgmlopkcgkjlaa

/-
  Scripts of operations in plain words, and that what they leave is a disk. Conditions: none.
-/
namespace Go.Proofs.Ythgmlopkcgkjlaa
open Go.RowKit

theorem DM.page_mem {M : DM} {i : Nat} (h : i < M.ps.length) : M.page i ∈ M.ps := List.mem_of_getElem? (DM.page_at h)
theorem DM.write_ok {M : DM} (hM : M.ok) (i a : Int) (s : List UInt8) : (M.write i a s).ok := by
  unfold DM.write
  split
  · split
    · rename_i hf
      have hs := DM.step_ok hM
      split
      · obtain ⟨h1, h2⟩ := Bool.and_eq_true_iff.1 hf
        obtain ⟨k, rfl, hk⟩ := DM.okP_nat h1
        have hp := DM.page_ok hM hk
        refine DM.set_ok hs _ ⟨hp.1, fun l hl => ?_⟩
        injection hl with hl
        have h3 := of_decide_eq_true h2
        rw [← hl, DM.put_length]
        · exact Pg.now_length hp
        · have h4 := Pg.now_length hp
          rw [Int.toNat_natCast, h4]; omega
      · exact hs
    · exact hM
  · exact hM
theorem DM.flush_ok {M : DM} (hM : M.ok) : M.flush.ok := by
  unfold DM.flush
  have hs := DM.step_ok hM
  split
  · split
    · refine ⟨fun p hp => ?_, hs.2.1, hs.2.2.1, ?_⟩
      · obtain ⟨q, hq, rfl⟩ := List.mem_map.1 hp
        exact Pg.settle_ok (hM.1 q hq) 128
      · show (M.ps.map fun p => p.settle 128).length ≤ 4096
        rw [List.length_map]; exact hM.2.2.2
    · exact hs
  · exact hM
theorem DM.tripTo_ok {M : DM} (hM : M.ok) {n : Int} (hn : inI n) : (M.tripTo n).ok := by
  have h1 := hn.lo
  have h2 := hn.hi
  refine ⟨hM.1, ?_, ?_, hM.2.2.2⟩
  · show -1 ≤ max n (-1); omega
  · show max n (-1) ≤ 9223372036854775807; omega
theorem DM.mount_ok {M : DM} (hM : M.ok) (picks : List Int) : (M.mount picks).ok := by
  have h := mtTo_ok hM picks M.pending.length (Nat.le_refl _)
  exact ⟨h.1, by show (-1 : Int) ≤ -1; omega, by show (-1 : Int) ≤ 9223372036854775807; omega, h.2.2.2⟩
theorem DM.rot_ok {M : DM} (hM : M.ok) (i b : Int) : (M.rot i b).ok := by
  unfold DM.rot
  split
  · rename_i hf
    obtain ⟨h1, _⟩ := Bool.and_eq_true_iff.1 hf
    obtain ⟨k, rfl, hk⟩ := DM.okP_nat h1
    have hp := DM.page_ok hM hk
    refine DM.set_ok hM _ ⟨?_, hp.2⟩
    show (DM.flip _ _).length = 128
    unfold DM.flip
    rw [List.length_set]; exact hp.1
  · exact hM
theorem DM.doM_ok {M : DM} (hM : M.ok) (x : OpM) (hi : inI x.i) : (M.doM x).ok := by
  unfold DM.doM
  split
  · exact DM.write_ok hM _ _ _
  · split
    · exact DM.flush_ok hM
    · split
      · exact DM.tripTo_ok hM hi
      · split
        · exact DM.mount_ok hM _
        · split
          · exact DM.rot_ok hM _ _
          · exact hM
theorem DM.step_len (M : DM) : M.step.ps.length = M.ps.length := by rw [DM.step_ps]
theorem DM.write_len (M : DM) (i a : Int) (s : List UInt8) : (M.write i a s).ps.length = M.ps.length := by
  unfold DM.write
  split
  · split
    · split
      · rw [DM.set_len, DM.step_len]
      · exact DM.step_len M
    · rfl
  · rfl
theorem DM.flush_len (M : DM) : M.flush.ps.length = M.ps.length := by
  unfold DM.flush
  split
  · split
    · exact List.length_map _
    · exact DM.step_len M
  · rfl
theorem DM.mount_len (M : DM) (picks : List Int) : (M.mount picks).ps.length = M.ps.length := mtTo_len M picks M.pending.length
theorem DM.rot_len (M : DM) (i b : Int) : (M.rot i b).ps.length = M.ps.length := by
  unfold DM.rot
  split
  · exact DM.set_len M _ _
  · rfl
theorem DM.doM_len (M : DM) (x : OpM) : (M.doM x).ps.length = M.ps.length := by
  unfold DM.doM
  split
  · exact DM.write_len M _ _ _
  · split
    · exact DM.flush_len M
    · split
      · rfl
      · split
        · exact DM.mount_len M _
        · split
          · exact DM.rot_len M _ _
          · rfl
/-- An operation whose integers are such, whose text and picks are not long. -/
structure OpM.fine (x : OpM) : Prop where
  i : inI x.i
  a : inI x.at_
  t : x.text.size ≤ 300
  p : x.picks.length ≤ 70
def DM.run (M : DM) (l : List OpM) : DM := l.foldl DM.doM M
theorem DM.run_next (M : DM) (l : List OpM) (j : Nat) (x : OpM) (h : l[j]? = some x) : M.run (l.take (j + 1)) = (M.run (l.take j)).doM x := by
  unfold DM.run
  rw [List.take_add_one, h, List.foldl_append]; rfl
theorem DM.run_all (M : DM) (l : List OpM) : M.run (l.take l.length) = M.run l := by rw [List.take_length]
theorem DM.run_ok : ∀ (l : List OpM) {M : DM}, M.ok → (∀ x ∈ l, x.fine) → (M.run l).ok
  | [], _, hM, _ => hM
  | x :: l, _, hM, h => DM.run_ok l (DM.doM_ok hM x (h x List.mem_cons_self).i) (fun y hy => h y (List.mem_cons_of_mem _ hy))
theorem DM.run_len : ∀ (l : List OpM) (M : DM), (M.run l).ps.length = M.ps.length
  | [], _ => rfl
  | x :: l, M => (DM.run_len l (M.doM x)).trans (DM.doM_len M x)
theorem DM.make_len (n : Nat) : (DM.make n).ps.length = n := by unfold DM.make; simp
/-- An operation's five cells. -/
def opRow (x : OpM) (pa : Option Addr) (pc : Nat) : List Value := [.int .i64 x.kind, .int .i64 x.i, .int .i64 x.at_, .string x.text, .slice pa x.picks.length pc]
/-- How a script lies in memory: five cells an operation, wherever the blocks below n0 are those of w. -/
def ScriptAt (n0 : Nat) (w : World) (A : Option Addr) (xs : List OpM) : Prop :=
  ∀ (j : Nat) (x : OpM), xs[j]? = some x → ∃ (p : Addr) (pa : Option Addr) (pc : Nat), A = some p ∧ ∀ w', Below n0 w w' →
    (∀ (q : Nat) (u : Value), (opRow x pa pc)[q]? = some u → w'.cell? ((p.add (j * 5)).add q) = some u) ∧ PkAt w' pa x.picks
theorem ScriptAt.next {n0 : Nat} {w w1 : World} {A : Option Addr} {xs : List OpM} (h : ScriptAt n0 w A xs) (hb : Below n0 w w1) : ScriptAt n0 w1 A xs := fun j x hx => by
  obtain ⟨p, pa, pc, e, hc⟩ := h j x hx
  exact ⟨p, pa, pc, e, fun w' hw => hc w' (hb.trans hw)⟩
theorem ScriptAt.up {n0 : Nat} {w : World} {A : Option Addr} {xs : List OpM} (h : ScriptAt n0 w A xs) (hs : n0 ≤ w.heap.size) : ScriptAt w.heap.size w A xs := fun j x hx => by
  obtain ⟨p, pa, pc, e, hc⟩ := h j x hx
  exact ⟨p, pa, pc, e, fun w' hw => hc w' (hw.mono hs)⟩
theorem below_only {n : Nat} {L : List Nat} {a b c : World} (h : Below n a b) (ho : Only L b c) (hL : ∀ k ∈ L, n ≤ k) (hn : n ≤ b.heap.size) : Below n a c :=
  ⟨ho.os.trans h.os, ho.tape.trans h.tape, ho.output.trans h.output, Nat.le_trans h.size ho.size, fun k hk => (ho.block k (by omega) (fun hm => by have := hL k hm; omega)).trans (h.block k hk)⟩
end Go.Proofs.Ythgmlopkcgkjlaa
