/-
  Contract of the walk over disk.Flush, which ranges over the pending pages in whatever order. Conditions: the record holds the disk.
-/
import Derived.Test.YtbmoedgokimhmaaDf6
namespace Go.Proofs.Ytbmoedgokimhmaa
open Go.RowKit
open Go.Maps (Keyed)

theorem ranges_only {L : List Nat} {w w' : World} {R : Value → Option (DataW Unit × List MemPlace)} {b r n : Nat} {D : DataW Unit} {left : Lit → Bool} {cnt : Nat} (h : w.ranges Try.prog 3 R b r n D left cnt) (ho : Only L w w') (hb : b ∉ L) (hr : r ∉ L) : w'.ranges Try.prog 3 R b r n D left cnt := by
  have h1 := h.owns.lt
  have h2 := h.lt
  obtain ⟨es, clock, since, seen, c0, hb', F, hs, hD, hr', rest⟩ := h
  exact ⟨es, clock, since, seen, c0, (ho.block b h1 hb).trans hb', F, hs, hD, (ho.block r h2 hr).trans hr', rest⟩
theorem only_drop {a b c : World} {gd gp gm r : Nat} (hr : a.heap.size ≤ r) (h : Only [gd, gp, gm] a b) (k : Only [gp, r] b c) : Only [gd, gp, gm] a c :=
  ⟨k.os.trans h.os, k.tape.trans h.tape, k.output.trans h.output, Nat.le_trans h.size k.size, fun i hi hn => (k.block i (Nat.lt_of_lt_of_le hi h.size) (by
    simp at hn ⊢
    exact ⟨hn.2.1, by omega⟩)).trans (h.block i hi hn)⟩
theorem rangeLeft_only {L : List Nat} {w w' : World} {R : Value → Option (DataW Unit × List MemPlace)} {b r n : Nat} {D : DataW Unit} {left : Lit → Bool} {cnt : Nat} (h : w.ranges Try.prog 3 R b r n D left cnt) (ho : Only L w w') (hb : b ∉ L) (hr : r ∉ L) : w'.rangeLeft b r = cnt := (ranges_only h ho hb hr).left_eq
theorem kInt_same (i : Nat) : (kInt i).sameKey (kInt i) = true := by simp [kInt, Lit.sameKey]
theorem kInt_diff {i j : Nat} (h : i ≠ j) : (kInt i).sameKey (kInt j) = false := Maps.sameKey_ne (fun e => h (kInt_inj e))
/-- The contents while the pending pages become content: those that are still to come are left. -/
def flAt (M : DM) (left : Lit → Bool) (i : Nat) : List UInt8 := if (M.page i).pend && !left (kInt i) then (M.page i).now else (M.page i).old
def flOld (M : DM) (left : Lit → Bool) : List (List UInt8) := (List.range M.ps.length).map (flAt M left)
theorem flOld_at (M : DM) (left : Lit → Bool) {i : Nat} (h : i < M.ps.length) : (flOld M left)[i]? = some (flAt M left i) := by unfold flOld; rw [List.getElem?_map, List.getElem?_range h]; rfl
theorem flOld_length (M : DM) (left : Lit → Bool) : (flOld M left).length = M.ps.length := by unfold flOld; simp
theorem flOld_128 {M : DM} (hM : M.ok) (left : Lit → Bool) : ∀ l ∈ flOld M left, l.length = 128 := by
  intro l hl
  obtain ⟨i, hi, rfl⟩ := List.mem_map.1 hl
  have hk := DM.page_ok hM (List.mem_range.1 hi)
  unfold flAt
  split
  · exact Pg.now_length hk
  · exact hk.1
theorem flOld_start {M : DM} (left : Lit → Bool) (h : ∀ i, i < M.ps.length → (M.page i).pend = true → left (kInt i) = true) : flOld M left = M.image := by
  apply List.ext_getElem?
  intro i
  rcases Nat.lt_or_ge i M.ps.length with hi | hi
  · rw [flOld_at M left hi, image_at hi]
    unfold flAt
    cases hp : (M.page i).pend with
    | false => rfl
    | true => rw [h i hi hp]; rfl
  · rw [List.getElem?_eq_none (by rw [flOld_length]; exact hi), List.getElem?_eq_none (by unfold DM.image; rw [List.length_map]; exact hi)]
theorem flOld_next {M : DM} (left : Lit → Bool) {i : Nat} (hi : i < M.ps.length) (hp : (M.page i).pend = true) : flOld M (fun z => left z && !z.sameKey (kInt i)) = (flOld M left).set i (M.page i).now := by
  apply List.ext_getElem?
  intro j
  rcases Nat.lt_or_ge j M.ps.length with hj | hj
  · rw [flOld_at M _ hj]
    by_cases e : i = j
    · subst e
      rw [List.getElem?_set_self (by rw [flOld_length]; exact hi)]
      unfold flAt
      simp [hp, kInt_same]
    · rw [List.getElem?_set_ne e, flOld_at M left hj]
      have hd := kInt_diff (fun h : j = i => e h.symm)
      unfold flAt
      simp [hd]
  · rw [List.getElem?_eq_none (by rw [flOld_length]; exact hj), List.getElem?_eq_none (by rw [List.length_set, flOld_length]; exact hj)]
theorem settle_all {p : Pg} (hp : p.ok) : p.settle 128 = ⟨if p.pend then p.now else p.old, none⟩ := by
  unfold Pg.settle Pg.pend Pg.now
  cases hn : p.new with
  | none =>
    obtain ⟨o, n⟩ := p
    simp at hn
    subst hn; rfl
  | some l =>
    have h1 := hp.2 l hn
    have h2 := hp.1
    simp
    rw [List.take_of_length_le (by omega), List.drop_eq_nil_of_le (by omega), List.append_nil]
def DM.settled (M : DM) : DM := { M with ps := M.ps.map fun p => p.settle 128 }
theorem settled_image {M : DM} (hM : M.ok) (left : Lit → Bool) (h : ∀ kl, left kl = false) : M.settled.image = flOld M left := by
  apply List.ext_getElem?
  intro i
  rcases Nat.lt_or_ge i M.ps.length with hi | hi
  · rw [flOld_at M left hi]
    unfold DM.image DM.settled flAt
    rw [List.map_map, List.getElem?_map, DM.page_at hi, h]
    simp only [Option.map_some, Function.comp, Bool.not_false, Bool.and_true]
    rw [settle_all (DM.page_ok hM hi)]
  · rw [List.getElem?_eq_none (by unfold DM.image DM.settled; rw [List.length_map, List.length_map]; exact hi), List.getElem?_eq_none (by rw [flOld_length]; exact hi)]
theorem settled_none {M : DM} (hM : M.ok) : ∀ q ∈ M.settled.ps, q.new = none := by
  intro q hq
  obtain ⟨p, hp, rfl⟩ := List.mem_map.1 hq
  rw [settle_all (hM.1 p hp)]
theorem settled_len (M : DM) : M.settled.ps.length = M.ps.length := by unfold DM.settled; rw [List.length_map]
theorem flush_down {M : DM} (h : M.up = false) : M.flushE = 13 ∧ M.flush = M := by unfold DM.flushE DM.flush; rw [h]; exact ⟨rfl, rfl⟩
theorem flush_trip {M : DM} (h : M.up = true) (hs : M.step.up = false) : M.flushE = 13 ∧ M.flush = M.step := by unfold DM.flushE DM.flush; rw [h, hs]; exact ⟨rfl, rfl⟩
theorem flush_good {M : DM} (h : M.up = true) (hs : M.step.up = true) : M.flushE = 0 ∧ M.flush = M.step.settled := by
  unfold DM.flushE DM.flush
  rw [if_pos h, if_pos hs, if_pos h, if_pos hs]
  unfold DM.settled
  rw [DM.step_ps]
  exact ⟨rfl, rfl⟩
def FlRel (M : DM) (D : DataW Unit) (gd gp gm k r cp : Nat) (Y : List Value) (w : World) (wr : World) : Prop :=
  ∃ (left : Lit → Bool) (cnt : Nat), wr.ranges Try.prog 3 pageR gm r k D left cnt ∧ Blk wr gp 108 (pgCells (flOld M left) ++ Y) ∧ Blk wr gd 105 [.slice (some ⟨gp, 0, none⟩) M.ps.length cp, .map (some gm), .bool M.up, .int .i64 M.trip] ∧ Only [gp, r] w wr
set_option maxRecDepth 100000 in
set_option maxHeartbeats 3200000 in
theorem flush_any (gd gp gm k cp : Nat) (Y : List Value) (M : DM) (w : World) (hM : M.ok) (h : PRep w gd gp gm cp Y M k) :
    Calls Try.prog 24 #[.pointer (some ⟨gd, 0, none⟩)] w fun x w' => x = .returned (.int .i64 M.flushE) ∧ PRep w' gd gp gm cp Y M.flush k ∧ Only [gd, gp, gm] w w' := by
  have c2 := h.d.cell (k := 2) rfl
  obtain ⟨u, hu⟩ : ∃ u, M.up = u := ⟨_, rfl⟩
  rw [hu] at c2
  cases u with
  | false =>
    obtain ⟨e1, e2⟩ := flush_down hu
    rw [e1, e2]
    have HH := h
    clear e1 e2 hu h hM
    go_enter Try.func24, Try.ntmps24
    go_wp2
    go_ret
    exact ⟨rfl, HH, Only.refl _ _⟩
  | true =>
    have HUP := Lib.hid hu
    by_cases hst : M.step.up = true
    · obtain ⟨e1, e2⟩ := flush_good hu hst
      rw [e1, e2]
      have HST := Lib.hid hst
      have hMs := DM.step_ok hM
      obtain ⟨N, hN⟩ : ∃ N, M.step = N := ⟨_, rfl⟩
      have HN := Lib.hid hN
      rw [hN] at hMs ⊢
      clear e1 e2 hu hst hN
      go_enter Try.func24, Try.ntmps24
      go_wp2_with fail
      (with_reducible refine (step_any gd gp gm k cp Y M _ HUP.out hM h).mono ?_)
      rintro e w1 ⟨rfl, h1, ho1⟩
      rw [HST.out]
      rw [HN.out] at h1
      clear c2 h HUP HST hM HN
      obtain ⟨D, hown, hIs, hD1, hD2⟩ := h1.m
      have HD1 := Lib.hid hD1
      have HD2 := Lib.hid hD2
      have c1 := h1.d.cell (k := 1) rfl
      have hst0 : flOld N (Maps.has D) = N.image := flOld_start _ (fun i hi hp => by
        have := (hD1 i _ (DM.page_at hi)).1
        unfold Pg.pend at hp
        cases hn : (N.page i).new with
        | none => rw [hn] at hp; cases hp
        | some l => exact Maps.has_true_of_atKey (this l hn))
      have hn4 : N.ps.length ≤ 4096 := hMs.2.2.2
      clear hD1 hD2
      go_wp2_with (first | (at_range; refine wpList_range_own _ rfl _ 103 rfl 3 108 keyedI Try.underlying103 _ gm k _ rfl hown ?_; intro w2 hrg2 hg2 hs2))
      go_frame
      have hb2 : Below w1.heap.size w1 w2 := (Below.refl _ _).grown hg2 (Nat.le_refl _) (fun k hk => by cases hk)
      have h2 := h1.next hb2
      have hp2 := h2.p
      rw [← hst0] at hp2
      have ho2 := ho1.trans (Only.of_below hb2)
      obtain ⟨r, hr⟩ : ∃ r, Hid (w1.heap.size = r) := ⟨_, rfl⟩
      rw [hr.out] at hrg2 ⊢
      have hdr : gd < r := by have := h1.d.lt; have := hr.out; omega
      have hpr : gp < r := by have := h1.p.lt; have := hr.out; omega
      have hmr : gm < r := by have := h1.m.lt; have := hr.out; omega
      have hrel0 : FlRel N D gd gp gm k r cp Y w2 w2 := ⟨_, _, hrg2, hp2, h2.d, Only.refl _ _⟩
      have hrw : w.heap.size ≤ r := by have := ho1.size; have := hr.out; omega
      have hn1 := h1.n1
      have hn2 := h1.n2
      have hn3 := h1.n3
      have h2m := h2.m
      clear c1 hown hg2 hs2 hb2 h1 hrg2 hp2 hst0 ho1
      go_loopw [3] (fun _ wr => FlRel N D gd gp gm k r cp Y w2 wr) (fun _ wr => wr.rangeLeft gm r)
      case atStart => exact hrel0
      case round =>
        clear hrel0
        obtain ⟨left, cnt, hrg, hp, hd, ho⟩ := hrel
        have c1 := hd.cell (k := 1) rfl
        have hleft := Lib.hid hrg.left_eq
        go_wp2_with (first | (at_next; refine wpList_next_ranges _ rfl _ rfl 3 keyedI pageR (Value.int .i64) (fun l : List UInt8 => Value.agg (l.map B8).toArray) (fun key kl hk => (by obtain ⟨x, rfl, _⟩ := Maps.keyOf_int_inv Try.underlying3 hk; exact ⟨x, rfl⟩)) (fun v y hv => (by obtain ⟨l, rfl, _⟩ := pageR_inv hv; exact ⟨l, rfl⟩)) gm r k D left cnt rfl hrg ?_ ?_))
        · intro _ hl0
          rw [← settled_image hMs left hl0] at hp
          have hnone := Lib.hid (settled_none hMs)
          have hslen := Lib.hid (settled_len N)
          obtain ⟨w4, hclr, hm4, hg4⟩ := run_clear (h2m.only ho (by simp; omega)) 0
          have ho4 : Only [gm] wr w4 := Only.of_grown hg4 (by simp)
          have h4 : PRep w4 gd gp gm cp Y N.settled k := by
            refine ⟨?_, hp.only ho4 (by simpa using hn3), (hm4 _ hnone.out).mono (Nat.zero_le k), hn1, hn2, hn3⟩
            rw [hslen.out]; exact hd.only ho4 (by simpa using hn2)
          have hoZ : Only [gd, gp, gm] w w4 := (only_drop hrw (ho2.mono (by simp)) ho).trans (ho4.mono (by simp))
          clear hm4 hg4 hp hd hrg hleft ho
          go_wp2
          go_ret
          exact ⟨rfl, h4, hoZ⟩
        · intro x l kl y yp w3 cnt3 hkey hlk hRv hat hrg3 hlt3 hg3 hs3 hen
          have hkx : kl = .int .i64 x := by
            obtain ⟨x', ex, e2, _⟩ := Maps.keyOf_int_inv Try.underlying3 hkey
            cases ex; exact e2
          obtain ⟨j, hj, hkj⟩ := HD2.out kl (Maps.has_true_of_atKey hat)
          have hxj : x = (j : Int) := by rw [hkx] at hkj; unfold kInt at hkj; injection hkj
          subst hxj
          subst hkj
          obtain ⟨ha, hno⟩ := HD1.out j _ (DM.page_at hj)
          have hnow : (N.page j).pend = true ∧ (N.page j).now = l := by
            rw [pageR_mk] at hRv
            unfold Pg.pend Pg.now
            cases hn : (N.page j).new with
            | none =>
              have := hno hn
              rw [Maps.has_true_of_atKey hat] at this
              cases this
            | some l' =>
              have h1 := ha l' hn .nil
              rw [hat] at h1
              injection hRv with hRv
              injection hRv with hRv1 _
              rw [← hRv1] at h1
              exact ⟨rfl, (Lit.string.inj (DataW.lit.inj h1)).symm⟩
          have hnx := flOld_next left hj hnow.1
          rw [hnow.2] at hnx
          have hll : l.length = 128 := by rw [← hnow.2]; exact Pg.now_length (DM.page_ok hMs hj)
          have hspl0 := pgCells_splice (flOld N left) (flOld_128 hMs left) j _ l (flOld_at N left hj) hll
          rw [← hnx] at hspl0
          have hlen : (pgCells (flOld N left)).length = N.ps.length * 128 := by rw [pgCells_length _ (flOld_128 hMs left), flOld_length]
          have hspl := splice_tail Y hspl0 (by rw [hlen, List.length_map, hll]; omega)
          clear hspl0
          have hlN : Hid ((l.map B8).length = 128) := by
            have : (l.map B8).length = 128 := by rw [List.length_map]; exact hll
            exact this
          have HSPL := Lib.hid hspl
          have HLEN := Lib.hid hlen
          have ho3 : Only [r] wr w3 := Only.of_grown hg3 (by simp)
          have hp3 := hp.only ho3 (by simp; omega)
          have hd3 := hd.only ho3 (by simp; omega)
          have hr3 : r < w3.heap.size := hrg3.lt
          have ho23 : Only [gp, r] w2 w3 := ho.trans (ho3.mono (by simp))
          clear hkx ha hno hnow hnx hll hspl hlen hat hlk hRv hkey hrg hp hd c1 ho3 hg3 hs3
          obtain ⟨n, hn⟩ : ∃ n, Hid (N.ps.length = n) := ⟨_, rfl⟩
          have hjn : (j : Int) < (n : Int) := by have := hn.out; omega
          rw [hn.out] at hd3
          have c0 := hd3.cell (k := 0) rfl
          go_wp2_with (with_reducible refine wpList_alloc (o := ⟨some 4, .alloc 108, _, _, _, _⟩) (by with_unfolding_all rfl) 108 (by with_unfolding_all rfl) (.agg (Z128.map B8).toArray) (Z128.map B8) (by exact Try.zeroP) (by with_unfolding_all rfl) ?_)
          intro g4 w4 hg4 hs4 hb4 hB4
          have hle : w3.heap.size ≤ g4 := Nat.le_of_eq hg4.out.symm
          go_wp2_with (with_reducible refine wpList_put (o := ⟨none, .store 108 (.tmp 4) (.tmp 24), _, _, _, _⟩) (by with_unfolding_all rfl) 108 (.tmp 4) (.tmp 24) (by with_unfolding_all rfl) g4 0 (by with_unfolding_all rfl) (.agg (l.map B8).toArray) (by with_unfolding_all rfl) hB4 (l.map B8) (by with_unfolding_all rfl) (by rw [hlN.out]; exact Try.sizeP) (by with_unfolding_all (rw [hlN.out, Z128_length]; exact Nat.le_refl _)) (B8_one _) ?_)
          intro w5 hu5 hB5
          rw [splice_all _ _ (by rw [hlN.out, Z128_length])] at hB5
          have hb5 : Below w3.heap.size w3 w5 := (hb4.mono hle).trans (hu5.below (B := w3.heap.size) hle)
          have ho5 := Only.of_below (L := ([] : List Nat)) hb5
          have hp5 := hp3.only ho5 (by simp)
          have hd5 := hd3.only ho5 (by simp)
          have hrg5 := ranges_only hrg3 ho5 (by simp) (by simp)
          have hg4r : r < g4 := by have := hr3; omega
          have ho25 := ho23.trans (Only.of_below hb5)
          have hun := Try.underlying108
          have hz : (Try.prog.info? 108).map (·.size) = some (l.map B8).length := by rw [hlN.out]; exact Try.sizeP
          have hdd := below_drew w5
          have hod := Only.of_below (L := ([] : List Nat)) hdd
          have hp6 := hp5.only hod (by simp)
          have hd6 := hd5.only hod (by simp)
          have hrg6 := ranges_only hrg5 hod (by simp) (by simp)
          have ho26 := ho25.trans (Only.of_below hdd)
          have hB6 := hB5.next hdd hB5.lt
          have hSd : w5.drew.cell? ⟨gd, 0, none⟩ = some (.slice (some ⟨gp, 0, none⟩) n cp) ∧ w5.drew.rangeAt g4 0 (l.map B8) := ⟨hd6.cell (k := 0) rfl, blk_range hB6⟩
          clear c0 hen hp3 hd3 hrg3 ho23 hg4 hs4 hb4 hB4 hu5 hB5 hb5 ho5 hp5 hd5 hrg5 ho25 hod
          go_wp2
          refine wp_region_held_drew (S := fun w' => w'.cell? ⟨gd, 0, none⟩ = some (.slice (some ⟨gp, 0, none⟩) n cp) ∧ w'.rangeAt g4 0 (l.map B8)) (by kernel_rfl) hSd (fun hHeld => ?_)
          generalize w5.drew = wd at hdd hHeld hSd hp6 hd6 hrg6 ho26 hB6 ⊢
          refine wpAnyH_take (i := 0) (v := ?vv0) rfl (by kernel_rfl) (by kernel_rfl) (by kernel_rfl) (fun _ _ _ h => h) (Or.inl ⟨by rfl, ?yv0⟩) (by assumption) ?rv0
          case yv0 => intro w hSw; (try dsimp only at hSw); go_simp <;> (try with_reducible rfl)
          (try simp only [List.getElem_toArray, List.getElem_cons_zero, Act.put, List.setIfInBounds_toArray, List.set_cons_zero, List.set_cons_succ])
          refine wpAnyH_take (i := 1) (v := ?vv1) rfl (by kernel_rfl) (by kernel_rfl) (by kernel_rfl) (fun _ _ _ h => h) (Or.inl ⟨by rfl, ?yv1⟩) (by assumption) ?rv1
          case yv1 => intro w hSw; (try dsimp only at hSw); go_simp <;> (try with_reducible rfl)
          (try simp only [List.getElem_toArray, List.getElem_cons_succ, List.getElem_cons_zero, Act.put, List.setIfInBounds_toArray, List.set_cons_zero, List.set_cons_succ])
          refine wpAnyH_take (i := 2) (v := ?vv2) rfl (by kernel_rfl) (by kernel_rfl) (by kernel_rfl) (fun _ _ _ h => h) (Or.inl ⟨by rfl, ?yv2⟩) (by assumption) ?rv2
          case yv2 => intro w hSw; (try dsimp only at hSw); go_simp <;> (try with_reducible rfl)
          (try simp only [List.getElem_toArray, List.getElem_cons_succ, List.getElem_cons_zero, Act.put, List.setIfInBounds_toArray, List.set_cons_zero, List.set_cons_succ])
          refine wpAnyH_take (i := 3) (v := ?vv3) rfl (by kernel_rfl) (by kernel_rfl) (by kernel_rfl) (fun _ _ _ h => h) (Or.inl ⟨by rfl, ?yv3⟩) (by assumption) ?rv3
          case yv3 => intro w hSw; (try dsimp only at hSw); go_simp <;> (try with_reducible rfl)
          (try simp only [List.getElem_toArray, List.getElem_cons_succ, List.getElem_cons_zero, Act.put, List.setIfInBounds_toArray, List.set_cons_zero, List.set_cons_succ])
          refine wpAnyH_take (i := 4) (v := ?vv4) rfl (by kernel_rfl) (by kernel_rfl) (by kernel_rfl) (fun _ _ _ h => h) (Or.inl ⟨by rfl, ?yv4⟩) (by assumption) ?rv4
          case yv4 => intro w hSw; (try dsimp only at hSw); go_simp <;> (try with_reducible rfl)
          (try simp only [List.getElem_toArray, List.getElem_cons_succ, List.getElem_cons_zero, Act.put, List.setIfInBounds_toArray, List.set_cons_zero, List.set_cons_succ])
          refine' wpAnyH_take (i := 5) (v := _) rfl (by kernel_rfl) (by kernel_rfl) (by kernel_rfl) (fun _ _ _ h => h) (yieldsIf_load_mid (by rfl) _ _ (by rfl) _ _ (by rfl) _ _ ?Sv5 ?uv5 ?dv5 ?iv5) (by assumption) ?rv5
          case Sv5 => exact (by intro w h; exact h.2)
          case uv5 => exact hun
          case dv5 => rfl
          case iv5 => exact hz
          (try simp only [List.getElem_toArray, List.getElem_cons_succ, List.getElem_cons_zero, Act.put, List.setIfInBounds_toArray, List.set_cons_zero, List.set_cons_succ])
          refine wpAnyH_take (i := 6) (v := ?vv6) rfl (by kernel_rfl) (by kernel_rfl) (by kernel_rfl) (fun _ _ _ h => h) (Or.inl ⟨by rfl, ?yv6⟩) (by assumption) ?rv6
          case yv6 => intro w hSw; (try dsimp only at hSw); go_simp <;> (try with_reducible rfl)
          (try simp only [List.getElem_toArray, List.getElem_cons_succ, List.getElem_cons_zero, Act.put, List.setIfInBounds_toArray, List.set_cons_zero, List.set_cons_succ])
          refine wpAnyH_ready (rs := [7]) (by kernel_rfl) (by simp) ?_
          refine AllReadyH.cons rfl (fun K hK => ?_) AllReadyH.nil
          rw [if_pos (by rfl)]
          refine wp_put 108 (.tmp 31) (.tmp 30) rfl gp (j * 128) rfl (.agg (l.map B8).toArray) rfl hp6 (l.map B8) rfl (by rw [hlN.out]; exact Try.sizeP) (by rw [List.length_append, HLEN.out, hn.out, hlN.out]; omega) (B8_one _) ?_
          intro w7 hu7 hB7
          rw [HSPL.out] at hB7
          have ho7 : Only [gp] wd w7 := Only.of_upd hu7 (by simp)
          have hd7 := hd6.only ho7 (by simpa using hn1)
          have hrg7 := ranges_only hrg6 ho7 (by simpa using hn3.symm) (by simp; omega)
          have ho27 : Only [gp, r] w2 w7 := ho26.trans (ho7.mono (by simp))
          have hB47 := hB6.only ho7 (by simp; omega)
          refine hK.out _ _ ⟨hd7.cell (k := 0) rfl, blk_range hB47⟩ (fun hHeld => ?_)
          clear hK K hHeld
          refine wpAnyH_done (by kernel_rfl) ?_ _
          clear hp6 hd6 hrg6 ho26 hB6 hu7 ho7 hB47 hSd hdd
          go_wp2
          go_roundw
          case rel =>
            have hR : FlRel N D gd gp gm k r cp Y w2 w7 := ⟨_, cnt3, hrg7, hB7, by rw [hn.out]; exact hd7, ho27⟩
            first | exact hR | ((repeat apply Exists.intro); exact ⟨hR, rfl⟩)
          case measure => rw [hrg7.left_eq, hleft.out]; exact hlt3
    · have hsf : M.step.up = false := by simpa using hst
      obtain ⟨e1, e2⟩ := flush_trip hu hsf
      rw [e1, e2]
      have HSF := Lib.hid hsf
      clear e1 e2 hu hst hsf
      go_enter Try.func24, Try.ntmps24
      go_wp2_with fail
      (with_reducible refine (step_any gd gp gm k cp Y M _ HUP.out hM h).mono ?_)
      rintro e w1 ⟨rfl, h1, ho1⟩
      rw [HSF.out]
      clear c2 h
      go_wp2
      go_ret
      exact ⟨rfl, h1, ho1.mono (by simp)⟩
end Go.Proofs.Ytbmoedgokimhmaa
