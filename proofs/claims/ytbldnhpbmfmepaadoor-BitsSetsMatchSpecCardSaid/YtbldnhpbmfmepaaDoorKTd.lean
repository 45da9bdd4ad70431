/-
  Contract of the walk over the reference's Sum. Conditions: right patterns.
-/
import Derived.Test.YtbldnhpbmfmepaaDoorKTc
namespace Go.Proofs.YtbldnhpbmfmepaaDoor
set_option linter.unusedVariables false
set_option linter.unusedSimpArgs false
open Go.RowKit

theorem PatsAt.take {w : World} {A : Option Addr} {l : List Pat} (h : PatsAt w A l) (k : Nat) : PatsAt w A (l.take k) := fun j p hp => h j p (by
  rw [List.getElem?_take] at hp
  by_cases e : j < k
  · rw [if_pos e] at hp; exact hp
  · rw [if_neg e] at hp; cases hp)
structure RSumI (l : List Pat) (w : World) (k : Nat) (A : Option Addr) (c : Nat) (wr : World) : Prop where
  fit : ∀ j, j < k → fitS l j
  own : wr.ownsRow w.heap.size 25 20 (.slice A (sumTo l k).length c) (sumTo l k).length (patCells (sumTo l k))
  below : Below w.heap.size w wr
def RSumRel (l : List Pat) (n : Nat) (w : World) (sv iv : Value) (wr : World) : Prop :=
  ∃ (k : Nat) (A : Option Addr) (c : Nat), k ≤ n ∧ iv = .int .i64 (k : Int) ∧ sv = .slice A (sumTo l k).length c ∧ RSumI l w k A c wr
set_option maxRecDepth 100000 in
set_option maxHeartbeats 3200000 in
theorem rsum_any (cl : Nat) (Al : Option Addr) (l : List Pat) (w : World) (hok : ∀ q, q ∈ l → q.ok) (hll : l.length ≤ 100000) (hcap : l.length ≤ cl) (hl : PatsAt w Al l) :
    Calls Tryd.prog 59 #[.slice Al l.length cl] w fun e w' => SumR w.heap.size l e w' ∧ Below w.heap.size w w' := by
  have HOK := Lib.hid hok
  have HL := Lib.hid hl
  obtain ⟨n, hn⟩ : ∃ n, Hid (l.length = n) := ⟨_, rfl⟩
  rw [hn.out] at hll hcap ⊢
  have hunP := Tryd.underlying25
  have hzp : ∀ x : Pat, (Tryd.prog.info? 25).map (·.size) = some x.cells.length := fun x => by rw [Pat.cells_length]; exact Tryd.szP
  have HZP := Lib.hid hzp
  clear hok hl hzp
  have H0 : Hid (RSumI l w 0 none 0 w) := (⟨fun j hj => absurd hj (Nat.not_lt_zero j), World.ownsRow_nil _ _ _ _, Below.refl _ _⟩ : RSumI l w 0 none 0 w)
  go_enter Tryd.func59, Tryd.ntmps59
  go_wp2
  go_loopw [4, 5] (RSumRel l n w) (fun _ i _ => n - (intOf i).toNat)
  case atStart => exact ⟨0, none, 0, Nat.zero_le _, rfl, rfl, H0.out⟩
  case round =>
    clear H0
    obtain ⟨k, A, c, hk, rfl, rfl, hI⟩ := hrel
    have HI := Lib.hid hI
    have hbe := HI.out.below
    clear hI
    by_cases hlt : k < n
    · have hki : (k : Int) < (n : Int) := by omega
      have hkc : (k : Int) ≤ (cl : Int) := by omega
      have hkc' : k ≤ cl := by omega
      obtain ⟨x, hx⟩ : ∃ x, l[k]? = some x := ⟨_, List.getElem?_eq_getElem (by rw [hn.out]; exact hlt)⟩
      have HX := Lib.hid hx
      obtain ⟨ga, oa, hAl, hca⟩ := HL.out k x hx
      subst hAl
      have KX : Hid (∀ w', Below w.heap.size w w' → w'.rangeAt ga (oa + k * 20) x.cells) := (fun w' hw v u hu => by rw [hw.cell (World.block_lt_of_cell? w _ (hca v u hu))]; exact hca v u hu : ∀ w', Below w.heap.size w w' → w'.rangeAt ga (oa + k * 20) x.cells)
      have zx := HZP.out x
      obtain ⟨S, hS⟩ : ∃ S, Hid (sumTo l k = S) := ⟨_, rfl⟩
      obtain ⟨s, hSs⟩ : ∃ s, Hid (S.length = s) := ⟨_, rfl⟩
      have hs4 : s ≤ 4000 := by have := sum_le k HI.out.fit; rw [hS.out, hSs.out] at this; omega
      have OW := HI.out.own
      rw [hS.out, hSs.out] at OW
      rw [hS.out, hSs.out]
      have hws : IntKind.i64.wrap (4000 - (s : Int)) = 4000 - (s : Int) := by simp only [IntKind.wrap_i64]; omega
      have hlk : (l.take k).length = k := by rw [List.length_take, hn.out]; omega
      obtain ⟨T, hT⟩ : ∃ T, Hid (l.take k = T) := ⟨_, rfl⟩
      have hsc := sumTo_succ hx
      rw [hlk, hT.out, hS.out] at hsc
      have hfs : Hid (fitS l k ↔ allFit x T (4000 - (s : Int))) := by
        have : fitS l k ↔ allFit x T (4000 - (s : Int)) := by
          constructor
          · intro h
            have := h x HX.out
            rw [hS.out, hSs.out, hT.out] at this
            exact this
          · intro h q hq
            rw [HX.out] at hq
            injection hq with hq
            rw [← hq, hS.out, hSs.out, hT.out]
            exact h
        exact this
      have hcall : ∀ W, Below w.heap.size w W → Calls Tryd.prog 90 #[.agg x.cells.toArray, .slice (some ⟨ga, oa, none⟩) k cl, .int .i64 (4000 - (s : Int))] W fun e w' => MinR W.heap.size x T (4000 - (s : Int)) e w' ∧ Below W.heap.size W w' := fun W hb => by
        have := rleft_any cl (some ⟨ga, oa, none⟩) (l.take k) x (4000 - (s : Int)) W (fun q hq => HOK.out q (List.mem_of_mem_take hq)) (HOK.out x (List.mem_of_getElem? HX.out)) (by omega) ((HL.out.next hb).take k) (by omega)
        rw [hlk, hT.out] at this
        exact this
      have HCALL := Lib.hid hcall
      have HSC := Lib.hid hsc
      have HTK : Hid (T.length = k) := by
        have : T.length = k := by rw [← hT.out]; exact hlk
        exact this
      clear hcall hsc hca hx hlk
      go_wp2
      have hd3 := hbe.drew
      have O3 := OW.drew
      refine wp_region_held_drew (S := fun w' => Below w.heap.size w w') (by kernel_rfl) hd3 (fun hHeld => ?_)
      clear hbe OW
      generalize wr.drew = w3 at hd3 O3 hHeld ⊢
      refine wpAnyH_take (i := 0) (v := ?vt0) rfl (by kernel_rfl) (by kernel_rfl) (by kernel_rfl) (fun _ _ _ h => h) (Or.inl ⟨by rfl, ?yt0⟩) (by assumption) ?rt0
      case yt0 => intro w hSw; (try dsimp only at hSw); go_simp <;> (try with_reducible rfl)
      (try simp only [List.getElem_toArray, List.getElem_cons_zero, Act.put, List.setIfInBounds_toArray, List.set_cons_zero, List.set_cons_succ])
      refine wpAnyH_take (i := 1) (v := ?vt1) rfl (by kernel_rfl) (by kernel_rfl) (by kernel_rfl) (fun _ _ _ h => h) (Or.inl ⟨by rfl, ?yt1⟩) (by assumption) ?rt1
      case yt1 => intro w hSw; (try dsimp only at hSw); go_simp <;> (try with_reducible rfl)
      (try simp only [List.getElem_toArray, List.getElem_cons_succ, List.getElem_cons_zero, Act.put, List.setIfInBounds_toArray, List.set_cons_zero, List.set_cons_succ])
      refine wpAnyH_take (i := 2) (v := ?vt2) rfl (by kernel_rfl) (by kernel_rfl) (by kernel_rfl) (fun _ _ _ h => h) (Or.inl ⟨by rfl, ?yt2⟩) (by assumption) ?rt2
      case yt2 => intro w hSw; (try dsimp only at hSw); go_simp <;> (try with_reducible rfl)
      (try simp only [List.getElem_toArray, List.getElem_cons_succ, List.getElem_cons_zero, Act.put, List.setIfInBounds_toArray, List.set_cons_zero, List.set_cons_succ])
      refine' wpAnyH_take (i := 3) (v := _) rfl (by kernel_rfl) (by kernel_rfl) (by kernel_rfl) (fun _ _ _ h => h) (yieldsIf_load_mid (by rfl) _ _ (by rfl) _ _ (by rfl) _ _ ?St3 ?ut3 ?dt3 ?it3) (by assumption) ?rt3
      case St3 => exact (by intro w h; exact KX.out _ h)
      case ut3 => exact hunP
      case dt3 => rfl
      case it3 => exact zx
      (try simp only [List.getElem_toArray, List.getElem_cons_succ, List.getElem_cons_zero, Act.put, List.setIfInBounds_toArray, List.set_cons_zero, List.set_cons_succ])
      refine wpAnyH_take (i := 4) (v := ?vt4) rfl (by kernel_rfl) (by kernel_rfl) (by kernel_rfl) (fun _ _ _ h => h) (Or.inl ⟨by rfl, ?yt4⟩) (by assumption) ?rt4
      case yt4 => intro w hSw; (try dsimp only at hSw); go_simp <;> (try with_reducible rfl)
      (try simp only [List.getElem_toArray, List.getElem_cons_succ, List.getElem_cons_zero, Act.put, List.setIfInBounds_toArray, List.set_cons_zero, List.set_cons_succ])
      refine wpAnyH_take (i := 5) (v := ?vt5) rfl (by kernel_rfl) (by kernel_rfl) (by kernel_rfl) (fun _ _ _ h => h) (Or.inl ⟨by rfl, ?yt5⟩) (by assumption) ?rt5
      case yt5 => intro w hSw; (try dsimp only at hSw); go_simp <;> (try with_reducible rfl)
      (try simp only [List.getElem_toArray, List.getElem_cons_succ, List.getElem_cons_zero, Act.put, List.setIfInBounds_toArray, List.set_cons_zero, List.set_cons_succ])
      refine wpAnyH_take (i := 6) (v := ?vt6) rfl (by kernel_rfl) (by kernel_rfl) (by kernel_rfl) (fun _ _ _ h => h) (Or.inl ⟨by rfl, ?yt6⟩) (by assumption) ?rt6
      case yt6 => intro w hSw; (try dsimp only at hSw); go_simp <;> (try with_reducible rfl)
      (try simp only [List.getElem_toArray, List.getElem_cons_succ, List.getElem_cons_zero, Act.put, List.setIfInBounds_toArray, List.set_cons_zero, List.set_cons_succ])
      refine wpAnyH_take (i := 7) (v := ?vt7) rfl (by kernel_rfl) (by kernel_rfl) (by kernel_rfl) (fun _ _ _ h => h) (Or.inl ⟨by rfl, ?yt7⟩) (by assumption) ?rt7
      case yt7 => intro w hSw; (try dsimp only at hSw); go_simp <;> (try with_reducible rfl)
      (try simp only [List.getElem_toArray, List.getElem_cons_succ, List.getElem_cons_zero, Act.put, List.setIfInBounds_toArray, List.set_cons_zero, List.set_cons_succ])
      refine wpAnyH_take (i := 8) (v := ?vt8) rfl (by kernel_rfl) (by kernel_rfl) (by kernel_rfl) (fun _ _ _ h => h) (Or.inl ⟨by rfl, ?yt8⟩) (by assumption) ?rt8
      case yt8 => intro w hSw; (try dsimp only at hSw); go_simp <;> (try with_reducible rfl)
      (try simp only [List.getElem_toArray, List.getElem_cons_succ, List.getElem_cons_zero, Act.put, List.setIfInBounds_toArray, List.set_cons_zero, List.set_cons_succ])
      refine wpAnyH_take (i := 9) (v := ?vt9) rfl (by kernel_rfl) (by kernel_rfl) (by kernel_rfl) (fun _ _ _ h => h) (Or.inl ⟨by rfl, ?yt9⟩) (by assumption) ?rt9
      case yt9 => intro w hSw; (try dsimp only at hSw); go_simp <;> (try with_reducible rfl)
      (try simp only [List.getElem_toArray, List.getElem_cons_succ, List.getElem_cons_zero, Act.put, List.setIfInBounds_toArray, List.set_cons_zero, List.set_cons_succ])
      refine wpAnyH_ready (rs := [10]) (by kernel_rfl) (by simp) ?_
      refine AllReadyH.cons rfl (fun K hK => ?_) AllReadyH.nil
      go_simp
      go_wp2_with fail
      (with_reducible refine (HCALL.out _ hd3).mono ?_)
      rintro e w5 ⟨hR, hb5⟩
      have hs3 := hd3.size
      have hd5 := below_join hd3 hb5
      have O5 := own_keep O3 (fun g hg => hb5.block g (O3.lt g hg).2)
      have hlt3 : ∀ g, (Value.slice A s c).ownBlock = some g → g < w3.heap.size := fun g hg => (O3.lt g hg).2
      clear O3
      rcases hR with ⟨hf, A5, c5, rfl, OL⟩ | ⟨hnf, rfl⟩
      · obtain ⟨L, hL⟩ : ∃ L, Hid (leftTo x T T.length = L) := ⟨_, rfl⟩
        obtain ⟨j, hLj⟩ : ∃ j, Hid (L.length = j) := ⟨_, rfl⟩
        have hj : (s : Int) + (j : Int) ≤ 4000 := by
          have := hf T.length (Nat.le_refl _)
          rw [hL.out, hLj.out] at this
          omega
        rw [hL.out, hLj.out] at OL
        rw [hL.out, hLj.out]
        have hfk : ∀ i, i < k + 1 → fitS l i := fun i hi => by
          by_cases e : i = k
          · rw [e]; exact hfs.out.2 hf
          · exact HI.out.fit i (by omega)
        have HFK := Lib.hid hfk
        have P5 : PatsAt w5 A5 L := by
          have OW2 := OL
          rw [← hLj.out] at OW2
          exact own_pats OW2
        have HC5 := Lib.hid P5.cellsAt
        have HL5 : Hid ((patCells L).length = j * 20) := by
          have : (patCells L).length = j * 20 := by rw [patCells_length, hLj.out]
          exact this
        have hnil5 : A5 = none → j = 0 ∧ c5 = 0 := fun e => by
          obtain ⟨A', c', hv, hsh⟩ := own_shape OL
          injection hv with e1 e2 e3
          subst e1 e3
          rcases hsh with ⟨_, h2, h3⟩ | ⟨g, hg, _⟩
          · exact ⟨h3, h2⟩
          · rw [hg] at e; cases e
        have HN5 := Lib.hid hnil5
        refine hK.out _ _ hd5 (fun hHeld => ?_)
        clear hK K hd3 hb5 hf hfk P5 hnil5 OL hlt3
        refine wpAnyH_take (i := 11) (v := ?vu11) rfl (by kernel_rfl) (by kernel_rfl) (by kernel_rfl) (fun _ _ _ h => h) (Or.inl ⟨by rfl, ?yu11⟩) (by assumption) ?ru11
        case yu11 => intro w hSw; (try dsimp only at hSw); go_simp <;> (try with_reducible rfl)
        (try simp only [List.getElem_toArray, List.getElem_cons_succ, List.getElem_cons_zero, Act.put, List.setIfInBounds_toArray, List.set_cons_zero, List.set_cons_succ])
        refine wpAnyH_take (i := 12) (v := ?vu12) rfl (by kernel_rfl) (by kernel_rfl) (by kernel_rfl) (fun _ _ _ h => h) (Or.inl ⟨by rfl, ?yu12⟩) (by assumption) ?ru12
        case yu12 => intro w hSw; (try dsimp only at hSw); go_simp <;> (try with_reducible rfl)
        (try simp only [List.getElem_toArray, List.getElem_cons_succ, List.getElem_cons_zero, Act.put, List.setIfInBounds_toArray, List.set_cons_zero, List.set_cons_succ])
        refine wpAnyH_take (i := 13) (v := ?vu13) rfl (by kernel_rfl) (by kernel_rfl) (by kernel_rfl) (fun _ _ _ h => h) (Or.inl ⟨by rfl, ?yu13⟩) (by assumption) ?ru13
        case yu13 => intro w hSw; (try dsimp only at hSw); go_simp <;> (try with_reducible rfl)
        (try simp only [List.getElem_toArray, List.getElem_cons_succ, List.getElem_cons_zero, Act.put, List.setIfInBounds_toArray, List.set_cons_zero, List.set_cons_succ])
        refine wpAnyH_take (i := 14) (v := ?vu14) rfl (by kernel_rfl) (by kernel_rfl) (by kernel_rfl) (fun _ _ _ h => h) (Or.inl ⟨by rfl, ?yu14⟩) (by assumption) ?ru14
        case yu14 => intro w hSw; (try dsimp only at hSw); go_simp <;> (try with_reducible rfl)
        (try simp only [List.getElem_toArray, List.getElem_cons_succ, List.getElem_cons_zero, Act.put, List.setIfInBounds_toArray, List.set_cons_zero, List.set_cons_succ])
        refine wpAnyH_take (i := 15) (v := ?vu15) rfl (by kernel_rfl) (by kernel_rfl) (by kernel_rfl) (fun _ _ _ h => h) (Or.inl ⟨by rfl, ?yu15⟩) (by assumption) ?ru15
        case yu15 => intro w hSw; (try dsimp only at hSw); go_simp <;> (try with_reducible rfl)
        (try simp only [List.getElem_toArray, List.getElem_cons_succ, List.getElem_cons_zero, Act.put, List.setIfInBounds_toArray, List.set_cons_zero, List.set_cons_succ])
        refine wpAnyH_done (by kernel_rfl) ?_ _
        clear hHeld
        have hs5 := hd5.size
        go_wp2_with (with_reducible refine wpList_appR3 _ (o := ⟨some 33, .call ⟨.builtin .append, #[.tmp 31, .tmp 32], #[31, 31]⟩, _, _, _, _⟩) (by with_unfolding_all rfl) (.tmp 31) (.tmp 32) (by with_unfolding_all rfl) w.heap.size _ s (patCells S) (by with_unfolding_all rfl) O5 A5 j c5 (patCells L) (by with_unfolding_all rfl) HL5.out HC5.out (patCells_one L) HN5.out (by omega) hs5 ?_)
        intro v7 w7 O7 hgr7 hnew7
        have hbe7 := hd5.grown hgr7 hs5 (fun g hg => (O5.lt g hg).1)
        obtain ⟨A7, c7, hv7, _⟩ := own_shape O7
        subst hv7
        have hsum : sumTo l (k + 1) = S ++ L := by rw [HSC.out, ← hL.out, HTK.out]
        have hlen : (sumTo l (k + 1)).length = s + j := by rw [hsum, List.length_append, hSs.out, hLj.out]
        have hI7 : Hid (RSumI l w (k + 1) A7 c7 w7) := (⟨HFK.out, by rw [hlen, hsum, patCells_app]; exact O7, hbe7⟩ : RSumI l w (k + 1) A7 c7 w7)
        have HLN := Lib.hid hlen
        clear O5 O7 hgr7 hnew7 hbe7 hsum hlen hd5
        go_wp2
        go_roundw
        case rel => exact ⟨k + 1, A7, c7, by omega, by go_num, by rw [HLN.out], hI7.out⟩
        case measure => simp [intOf]; omega
      · have hbad : Hid (∃ j, j < l.length ∧ ¬ fitS l j) := ⟨k, by rw [hn.out]; exact hlt, fun h => hnf (hfs.out.1 h)⟩
        refine hK.out _ _ hd5 (fun hHeld => ?_)
        clear hK K hd3 hb5 hnf O5 hlt3
        refine wpAnyH_take (i := 11) (v := ?vv11) rfl (by kernel_rfl) (by kernel_rfl) (by kernel_rfl) (fun _ _ _ h => h) (Or.inl ⟨by rfl, ?yv11⟩) (by assumption) ?rv11
        case yv11 => intro w hSw; (try dsimp only at hSw); go_simp <;> (try with_reducible rfl)
        (try simp only [List.getElem_toArray, List.getElem_cons_succ, List.getElem_cons_zero, Act.put, List.setIfInBounds_toArray, List.set_cons_zero, List.set_cons_succ])
        refine wpAnyH_take (i := 12) (v := ?vv12) rfl (by kernel_rfl) (by kernel_rfl) (by kernel_rfl) (fun _ _ _ h => h) (Or.inl ⟨by rfl, ?yv12⟩) (by assumption) ?rv12
        case yv12 => intro w hSw; (try dsimp only at hSw); go_simp <;> (try with_reducible rfl)
        (try simp only [List.getElem_toArray, List.getElem_cons_succ, List.getElem_cons_zero, Act.put, List.setIfInBounds_toArray, List.set_cons_zero, List.set_cons_succ])
        refine wpAnyH_take (i := 13) (v := ?vv13) rfl (by kernel_rfl) (by kernel_rfl) (by kernel_rfl) (fun _ _ _ h => h) (Or.inl ⟨by rfl, ?yv13⟩) (by assumption) ?rv13
        case yv13 => intro w hSw; (try dsimp only at hSw); go_simp <;> (try with_reducible rfl)
        (try simp only [List.getElem_toArray, List.getElem_cons_succ, List.getElem_cons_zero, Act.put, List.setIfInBounds_toArray, List.set_cons_zero, List.set_cons_succ])
        refine wpAnyH_take (i := 14) (v := ?vv14) rfl (by kernel_rfl) (by kernel_rfl) (by kernel_rfl) (fun _ _ _ h => h) (Or.inl ⟨by rfl, ?yv14⟩) (by assumption) ?rv14
        case yv14 => intro w hSw; (try dsimp only at hSw); go_simp <;> (try with_reducible rfl)
        (try simp only [List.getElem_toArray, List.getElem_cons_succ, List.getElem_cons_zero, Act.put, List.setIfInBounds_toArray, List.set_cons_zero, List.set_cons_succ])
        refine wpAnyH_take (i := 15) (v := ?vv15) rfl (by kernel_rfl) (by kernel_rfl) (by kernel_rfl) (fun _ _ _ h => h) (Or.inl ⟨by rfl, ?yv15⟩) (by assumption) ?rv15
        case yv15 => intro w hSw; (try dsimp only at hSw); go_simp <;> (try with_reducible rfl)
        (try simp only [List.getElem_toArray, List.getElem_cons_succ, List.getElem_cons_zero, Act.put, List.setIfInBounds_toArray, List.set_cons_zero, List.set_cons_succ])
        refine wpAnyH_done (by kernel_rfl) ?_ _
        clear hHeld
        go_wp2
        go_ret2
        exact ⟨.inr ⟨hbad.out, rfl⟩, hd5⟩
    · obtain rfl : k = l.length := by rw [hn.out]; omega
      have hres : Hid (SumR w.heap.size l (.returned (.tuple #[.slice A (sumTo l l.length).length c, .int .i64 0])) wr) := .inl ⟨HI.out.fit, A, c, rfl, HI.out.own⟩
      obtain ⟨m, hm⟩ : ∃ m, (sumTo l l.length).length = m := ⟨_, rfl⟩
      rw [hm] at hres ⊢
      rw [hn.out]
      clear hm
      go_wp2
      go_ret2
      exact ⟨hres.out, hbe⟩
end Go.Proofs.YtbldnhpbmfmepaaDoor
