/-
  Contracts of the functions that the statement calls, part 5 of 37 (merged texts: Df3, Df4). Conditions: as the head of each part says.
-/
import Derived.Test.YthgmlopkcgkjlaaGD
import Derived.OwnWalk

/-
  Contracts of the walks over disk.New and Write. Conditions: the record holds the disk.
-/
namespace Go.Proofs.Ythgmlopkcgkjlaa
open Go.RowKit

theorem made_rep (m n : Nat) (v : Value) (hm : 0 < m) : (madeCells (List.replicate m v).toArray n).toList = List.replicate n v := by
  apply List.ext_getElem?
  intro j
  by_cases hj : j < n
  · have hjm : j % m < m := Nat.mod_lt _ hm
    simp only [madeCells, List.size_toArray, List.length_replicate, Array.toList_map, List.getElem?_map, Array.toList_range, List.getElem?_range hj, Option.map_some, List.getElem?_replicate, if_pos hj]
    simp [hjm]
  · rw [List.getElem?_eq_none (by simp [madeCells]; omega), List.getElem?_eq_none (by simp; omega)]
theorem pgCells_zeros : ∀ n, pgCells (List.replicate n Z128) = List.replicate (n * 128) (Value.int .u8 0)
  | 0 => rfl
  | n + 1 => by
    have ih := pgCells_zeros n
    have e : pgCells (List.replicate (n + 1) Z128) = Z128.map B8 ++ pgCells (List.replicate n Z128) := by unfold pgCells; rw [List.replicate_succ, List.flatMap_cons]
    rw [e, ih, show Z128.map B8 = List.replicate 128 (Value.int .u8 0) from rfl, List.replicate_append_replicate]
    congr 1
    omega
theorem Try.infoP : (Try.prog.info? 108).map (fun i => (i.zero, i.size, i.bytes)) = some (some (.agg (List.replicate 128 (Value.int .u8 0)).toArray), 128, 128) := by kernel_rfl
theorem make_image (n : Nat) : (DM.make n).image = List.replicate n Z128 := by unfold DM.image DM.make; rw [List.map_replicate]
theorem new_bad (n : Int) (w : World) (h : n < 1 ∨ 4096 < n) :
    Calls Try.prog 16 #[.int .i64 n] w fun e w' => e = .returned (.tuple #[.pointer none, .int .i64 1]) ∧ w = w' := by
  by_cases h1 : n < 1
  · clear h
    go_enter Try.func16, Try.ntmps16
    go_wp2
    go_ret2
    exact ⟨rfl, rfl⟩
  · have h2 : 4096 < n := by omega
    clear h h1
    go_enter Try.func16, Try.ntmps16
    go_wp2
    go_ret2
    exact ⟨rfl, rfl⟩
set_option maxRecDepth 100000 in
set_option maxHeartbeats 1600000 in
theorem new_any (n : Nat) (w : World) (h1 : 1 ≤ n) (h2 : n ≤ 4096) :
    Calls Try.prog 16 #[.int .i64 (n : Int)] w fun e w' => ∃ gd gp gm, e = .returned (.tuple #[.pointer (some ⟨gd, 0, none⟩), .int .i64 0]) ∧ PRep w' gd gp gm n [] (DM.make n) 0 ∧ Below w.heap.size w w' ∧ w.heap.size ≤ gd ∧ w.heap.size ≤ gp ∧ w.heap.size ≤ gm := by
  obtain ⟨i0, hi, hz0, hz1, hz2⟩ := info_parts Try.infoP
  have hmm := @run_makeMap Try.prog
  go_enter Try.func16, Try.ntmps16
  go_wp2_with (at_make; refine wpList_make_full _ rfl _ _ 102 rfl w.heap.size 108 i0 _ 128 Try.underlying102 hi hz0 hz1 _ _ _ _ n rfl rfl rfl rfl ?b2 ?b3 ?b4 ?_)
  case b2 => rw [hz2]; omega
  case b3 => unfold maxLen; omega
  case b4 => omega
  intro w1 hown1 hg1
  have hB1 : Blk w1 w.heap.size 108 (pgCells (List.replicate n Z128)) := by
    have hown2 : w1.ownsRow w.heap.size 108 128 (.slice (some ⟨w.heap.size, 0, none⟩) n n) n (madeCells (List.replicate 128 (Value.int .u8 0)).toArray (n * 128)).toList := hown1
    rw [made_rep 128 _ _ (by decide), ← pgCells_zeros] at hown2
    exact own_blk hown2
  have hbel1 := (Below.refl w.heap.size w).grown hg1 (Nat.le_refl _) (fun k hk => by cases hk)
  have hlt1 := hB1.lt
  clear hown1 hg1
  go_wp2_with (with_reducible refine wpList_box (o := ⟨some 14, .box 105 (.tmp 13), _, _, _, _⟩) ?g2 105 (.tmp 13) ?o2 (.agg #[.slice (some ⟨w.heap.size, 0, none⟩) n n, .map (some w1.heap.size), .bool true, .int .i64 (-1)]) [.slice (some ⟨w.heap.size, 0, none⟩) n n, .map (some w1.heap.size), .bool true, .int .i64 (-1)] ?x2 ?c2 ?_)
  try (case g2 => rfl)
  try (case o2 => rfl)
  try (case x2 => rfl)
  try (case c2 => rfl)
  intro gd w3 hgd hs3 hb3 hB3
  have hgd' : gd = w1.heap.size + 1 := hgd.out
  have hb2 : Below w1.heap.size w1 (w1.alloc (.map #[] 0)) := below_new w1 _
  have hm2 := MapOK.made w1 n
  have hb23 : Below (w1.alloc (.map #[] 0)).heap.size (w1.alloc (.map #[] 0)) w3 := hb3.mono (by simp; omega)
  have hb13 := below_join hb2 hb23
  have hBp := hB1.next hb13 hB1.lt
  have hm3 := hm2.only (Only.of_below (L := []) hb23) (by simp)
  have hbel3 := below_join hbel1 hb13
  have hsz := hbel1.size
  go_wp2
  go_ret2
  refine ⟨gd, w.heap.size, w1.heap.size, rfl, ⟨?_, ?_, hm3, ?_, ?_, ?_⟩, hbel3, ?_, Nat.le_refl _, hsz⟩
  · have e : (DM.make n).ps.length = n := by unfold DM.make; simp
    rw [e]; exact hB3
  · rw [make_image, List.append_nil]; exact hBp
  · omega
  · omega
  · omega
  · omega
def offP (k : Nat) : Nat := if k = 128 then 0 else k
/-- 'p[at:]' of a page that is a variable. -/
theorem wpList_cutP {ops : Array Oper} {rest : List Oper} {o : Oper} {a : Act} {w : World} {Q : Exit → Act → World → Prop} (hgd : o.guard = none) (x lo : Operand) (ho : o.op = .slice 108 x (some lo) none none)
    (g b : Nat) (hx : a.eval x = .pointer (some ⟨g, b, none⟩)) (k : Nat) (hlo : a.eval lo = .int .i64 (k : Int)) (hk : k ≤ 128)
    (h : wpList Try.prog ops Q rest (a.put o.dst (.slice (some ⟨g, b + offP k, none⟩) (128 - k) (128 - k))) w) : wpList Try.prog ops Q (o :: rest) a w := by
  refine wpList_plain hgd fun K hK => ?_
  obtain ⟨e1, e2⟩ := arrayLen_of (P := Try.prog) Try.underlying108
  have hrun := run_sliceAt_array_l (P := Try.prog) w 108 ⟨g, b, none⟩ (by rw [e1, e2]; exact Try.underlying108) .i64 (k : Int) (by omega) (by rw [e1]; omega)
  have hs := Try.sz5
  cases hq : Try.prog.info? 5 with
  | none => simp [hq] at hs
  | some i =>
    have hz : i.size = 1 := by simpa [hq] using hs
    rw [e1, e2] at hrun
    have hr2 : (Instr.sliceAt 108 (.pointer (some ⟨g, b, none⟩)) (some (.int .i64 (k : Int))) none none).run Try.prog w = .ok (.slice (some ⟨g, b + offP k, none⟩) (128 - k) (128 - k)) w := by
      rw [hrun]
      unfold offP
      by_cases h128 : k = 128
      · subst h128
        simp [sizeOf, typeInfo, hq, hz, slicedAt]
      · have : ¬ (128 = k) := fun e => h128 e.symm
        simp [sizeOf, typeInfo, hq, hz, slicedAt, addr_mid, h128, this]
    unfold Oper.wp execOp
    simp [ho, hx, hlo, hr2]
    exact hK _ _ h
theorem byteCells_B8 (l : List UInt8) : Lib.byteCells l = l.map B8 := rfl
theorem put_splice (l s : List UInt8) (k : Nat) (_hl : l.length = 128) (hs : k + s.length ≤ 128) : splice (l.map B8) (0 + offP k) (Lib.byteCells (s.take (128 - k))) = (DM.put l k s).map B8 := by
  rw [List.take_of_length_le (by omega), byteCells_B8]
  unfold splice DM.put offP
  by_cases h : k = 128
  · have hs0 : s = [] := List.eq_nil_of_length_eq_zero (by omega)
    subst hs0
    rw [if_pos h, h]
    simp
  · rw [if_neg h]
    simp
theorem wp_mapUpdate {o : Oper} {a : Act} {w : World} {K : Act → World → Prop} {Q : Exit → Act → World → Prop} (m x v : Operand) (t : TypeId) (hop : o.op = Op.mapUpdate t m x v) {mv kv vv : Value} (hm : a.eval m = mv) (hx : a.eval x = kv) (hv : a.eval v = vv)
    {w' : World} (hrun : (Instr.mapUpdate t mv kv vv).run Try.prog w = .ok () w') (h : K (a.put o.dst undef) w') : Oper.wp Try.prog o a w K Q := by
  unfold Oper.wp
  simp [execOp, hop, hm, hx, hv, hrun, Result.andThen]
  exact h
end Go.Proofs.Ythgmlopkcgkjlaa

/-
  Contract of the walk over disk.Write. Conditions: the record holds the disk; a text of at most 10^6 bytes.
-/
namespace Go.Proofs.Ythgmlopkcgkjlaa
open Go.RowKit

theorem DM.step_ps (M : DM) : M.step.ps = M.ps := by unfold DM.step; split <;> (try split) <;> rfl
theorem DM.page_step (M : DM) (i : Nat) : M.step.page i = M.page i := by unfold DM.page; rw [DM.step_ps]
theorem DM.image_new (M : DM) (i : Nat) (hi : i < M.ps.length) (n : Option (List UInt8)) : (M.set i ⟨(M.page i).old, n⟩).image = M.image := by
  unfold DM.image DM.set
  rw [List.map_set]
  apply List.ext_getElem?
  intro j
  by_cases hj : i = j
  · subst hj
    rw [List.getElem?_set_self (by rw [List.length_map]; exact hi), List.getElem?_map, DM.page_at hi]; rfl
  · rw [List.getElem?_set_ne hj]
theorem DM.set_len (M : DM) (i : Nat) (p : Pg) : (M.set i p).ps.length = M.ps.length := by unfold DM.set; rw [List.length_set]
theorem write_down {M : DM} {i a : Int} {s : List UInt8} (h : M.up = false) : M.writeE i a s = 13 ∧ M.write i a s = M := by unfold DM.writeE DM.write; rw [h]; exact ⟨rfl, rfl⟩
theorem write_bad {M : DM} {i a : Int} {s : List UInt8} (h : M.up = true) (hb : (M.okP i && DM.fits a s.length) = false) : M.writeE i a s = 1 ∧ M.write i a s = M := by unfold DM.writeE DM.write; rw [h, hb]; exact ⟨rfl, rfl⟩
theorem write_trip {M : DM} {i a : Int} {s : List UInt8} (h : M.up = true) (hb : (M.okP i && DM.fits a s.length) = true) (hs : M.step.up = false) : M.writeE i a s = 13 ∧ M.write i a s = M.step := by unfold DM.writeE DM.write; rw [h, hb, hs]; exact ⟨rfl, rfl⟩
theorem write_good {M : DM} {i a : Int} {s : List UInt8} (h : M.up = true) (hb : (M.okP i && DM.fits a s.length) = true) (hs : M.step.up = true) : M.writeE i a s = 0 ∧ M.write i a s = M.step.set i.toNat ⟨(M.page i.toNat).old, some (DM.put (M.page i.toNat).now a.toNat s)⟩ := by unfold DM.writeE DM.write; rw [h, hb, hs]; exact ⟨rfl, rfl⟩
set_option maxRecDepth 100000 in
set_option maxHeartbeats 3200000 in
theorem write_any (gd gp gm k cp : Nat) (Y : List Value) (M : DM) (i a : Int) (s : ByteArray) (w : World) (hM : M.ok) (hs : s.size ≤ 1000000) (hk : k ≤ 1000000) (h : PRep w gd gp gm cp Y M k) :
    Calls Try.prog 26 #[.pointer (some ⟨gd, 0, none⟩), .int .i64 i, .int .i64 a, .string s] w fun x w' => x = .returned (.int .i64 (M.writeE i a s.data.toList)) ∧ PRep w' gd gp gm cp Y (M.write i a s.data.toList) (k + 1) ∧ Only [gd, gm] w w' := by
  have c2 := h.d.cell (k := 2) rfl
  obtain ⟨u, hu⟩ : ∃ u, M.up = u := ⟨_, rfl⟩
  rw [hu] at c2
  have hsl : s.data.toList.length = s.size := bytes_size s
  cases u with
  | false =>
    obtain ⟨e1, e2⟩ := write_down (i := i) (a := a) (s := s.data.toList) hu
    rw [e1, e2]
    clear e1 e2 hu hsl
    have h' := h.mono (Nat.le_succ k)
    clear h
    go_enter Try.func26, Try.ntmps26
    go_wp2
    go_ret
    exact ⟨rfl, h', Only.refl _ _⟩
  | true =>
    have HUP := Lib.hid hu
    by_cases hp : M.okP i = true
    · by_cases ha : 0 ≤ a
      · by_cases hf : a + (s.size : Int) ≤ 128
        · have hfit : (M.okP i && DM.fits a s.data.toList.length) = true := by rw [hp, hsl]; exact decide_eq_true ⟨ha, hf⟩
          have hafit : a ≤ 128 - (s.size : Int) := by omega
          by_cases hst : M.step.up = true
          · obtain ⟨e1, e2⟩ := write_good hu hfit hst
            obtain ⟨j, rfl, hj⟩ := DM.okP_nat hp
            obtain ⟨b, rfl⟩ : ∃ b : Nat, a = (b : Int) := ⟨a.toNat, by omega⟩
            rw [Int.toNat_natCast, Int.toNat_natCast] at e2
            obtain ⟨R, hR⟩ : ∃ R, (M.page j).now = R := ⟨_, rfl⟩
            have hRl : Hid (R.length = 128) := by rw [← hR]; exact Pg.now_length (DM.page_ok hM hj)
            have hRN : Hid ((R.map B8).length = 128) := by
              have : (R.map B8).length = 128 := by rw [List.length_map]; exact hRl.out
              exact this
            obtain ⟨X, hX⟩ : ∃ X, DM.put R b s.data.toList = X := ⟨_, rfl⟩
            have hXl : Hid ((X.map B8).length = 128) := by
              have : (X.map B8).length = 128 := by rw [List.length_map, ← hX, DM.put_length (by rw [hRl.out, hsl]; omega)]; exact hRl.out
              exact this
            have hps := put_splice R s.data.toList b hRl.out (by rw [hsl]; omega)
            rw [hX, Nat.zero_add] at hps
            rw [hR, hX] at e2
            have hRs : (M.step.page j).now = R := by rw [DM.page_step]; exact hR
            have hjs : j < M.step.ps.length := by rw [DM.step_ps]; exact hj
            have hpa : M.step.ps[j]? = some (M.page j) := by rw [DM.step_ps]; exact DM.page_at hj
            have hj63 : j < 9223372036854775808 := by have := hM.2.2.2; omega
            have him := DM.image_new M.step j hjs (some X)
            rw [DM.page_step] at him
            have HPS := Lib.hid hps
            have HRS := Lib.hid hRs
            have HPA := Lib.hid hpa
            have HIM := Lib.hid him
            have HP := Lib.hid hp
            have HST := Lib.hid hst
            have HL := Lib.hid (DM.set_len M.step j ⟨(M.page j).old, some X⟩)
            have HJS := Lib.hid hjs
            have hMs := DM.step_ok hM
            have hb128 : b ≤ 128 := by omega
            rw [e1, e2]
            clear e1 e2 hps hR hX hRs hpa him hp hfit hst hsl hj hjs hf ha
            go_enter Try.func26, Try.ntmps26
            go_wp2_with fail
            (with_reducible refine (has_any gd gp gm k cp Y M _ true _ HP.out h).mono ?_)
            rintro e w' ⟨rfl, rfl⟩
            go_wp2_with fail
            (with_reducible refine (step_any gd gp gm k cp Y M _ HUP.out hM h).mono ?_)
            rintro e w1 ⟨rfl, h1, ho1⟩
            rw [HST.out]
            clear c2 h
            go_wp2_with fail
            (with_reducible refine (latest_any gd gp gm k cp Y M.step j R _ HJS.out hMs HRS.out h1).mono ?_)
            rintro e w2 ⟨rfl, hb2⟩
            go_wp2_with (with_reducible refine wpList_alloc (o := ⟨some 9, .alloc 108, _, _, _, _⟩) (by with_unfolding_all rfl) 108 (by with_unfolding_all rfl) (.agg (Z128.map B8).toArray) (Z128.map B8) (by exact Try.zeroP) (by with_unfolding_all rfl) ?_)
            intro g9 w3 hg9 hs3 hb3 hB3
            have hle : w2.heap.size ≤ g9 := Nat.le_of_eq hg9.out.symm
            have hle9 : w1.heap.size ≤ g9 := Nat.le_trans hb2.size hle
            go_wp2_with (with_reducible refine wpList_put (o := ⟨none, .store 108 (.tmp 9) (.tmp 34), _, _, _, _⟩) (by with_unfolding_all rfl) 108 (.tmp 9) (.tmp 34) (by with_unfolding_all rfl) g9 0 (by with_unfolding_all rfl) (.agg (R.map B8).toArray) (by with_unfolding_all rfl) hB3 (R.map B8) (by with_unfolding_all rfl) (by rw [hRN.out]; exact Try.sizeP) (by with_unfolding_all (rw [hRN.out, Z128_length]; exact Nat.le_refl _)) (B8_one _) ?_)
            intro w4 hu4 hB4
            rw [splice_all _ _ (by rw [hRN.out, Z128_length])] at hB4
            have hb4 := below_join hb2 ((hb3.mono hle).trans (hu4.below (B := w2.heap.size) hle))
            have h4 := h1.next hb4
            have h1lt := Lib.hid h1.d.lt
            have h1lp := Lib.hid h1.p.lt
            have h1lm := Lib.hid h1.m.lt
            clear hb2 hb3 hB3 hu4 hg9 hs3 h1
            go_wp2_with (first | (with_reducible refine wpList_cutP (o := ⟨some 36, .slice 108 (.tmp 9) (some (.tmp 35)) none none, _, _, _, _⟩) (by with_unfolding_all rfl) (.tmp 9) (.tmp 35) (by with_unfolding_all rfl) g9 0 (by with_unfolding_all rfl) b (by with_unfolding_all rfl) hb128 ?_) | (with_reducible refine wpList_copyStr (o := ⟨some 38, .call ⟨.builtin .copy, #[(.tmp 36), (.tmp 37)], #[110, 9]⟩, _, _, _, _⟩) ?g7 (.tmp 36) (.tmp 37) 110 9 ?o7 5 ?u7 ?i7 g9 (offP b) (128 - b) (128 - b) ?x7 s ?y7 hB4 ?l7 ?_))
            try (case x7 => rfl)
            try (case g7 => rfl)
            try (case o7 => rfl)
            try (case y7 => rfl)
            try (case u7 => exact Try.underlying110)
            try (case i7 => exact Try.sz5)
            try (case l7 => (rw [hRN.out]; unfold offP; split <;> omega))
            intro w5 hu5 hB5
            rw [HPS.out] at hB5
            have hb5 : Below w1.heap.size w1 w5 := hb4.trans (hu5.below (B := w1.heap.size) hle9)
            have ho5 : Only [gd, gm] w w5 := (ho1.mono (by simp)).trans (Only.of_below hb5)
            have hd1 : gd < w1.heap.size := by have := h1lt.out; omega
            have hd2 : gp < w1.heap.size := by have := h1lp.out; omega
            have hd3 : gm < w1.heap.size := by have := h1lm.out; omega
            have h5 := h4.only (Only.of_upd (L := [g9]) hu5 (by simp)) (by simp; omega) (by simp; omega) (by simp; omega)
            clear h4 hb4 hB4 hu5 hb5
            have c1 := h5.d.cell (k := 1) rfl
            have hun := Try.underlying108
            have hz : (Try.prog.info? 108).map (·.size) = some (X.map B8).length := by rw [hXl.out]; exact Try.sizeP
            have hdd := below_drew w5
            have hSd : w5.drew.cell? ⟨gd, 1, none⟩ = some (.map (some gm)) ∧ w5.drew.rangeAt g9 0 (X.map B8) := ⟨(h5.next hdd).d.cell (k := 1) rfl, blk_range (hB5.next hdd hB5.lt)⟩
            go_wp2
            refine wp_region_held_drew (S := fun w' => w'.cell? ⟨gd, 1, none⟩ = some (.map (some gm)) ∧ w'.rangeAt g9 0 (X.map B8)) (by kernel_rfl) hSd (fun hHeld => ?_)
            have h6 := h5.next hdd
            have ho6 := ho5.trans (Only.of_below hdd)
            clear h5 ho5 c1
            generalize w5.drew = wd at hdd hHeld hSd h6 ho6 ⊢
            refine wpAnyH_take (i := 0) (v := ?vv0) rfl (by kernel_rfl) (by kernel_rfl) (by kernel_rfl) (fun _ _ _ h => h) (Or.inl ⟨by rfl, ?yv0⟩) (by assumption) ?rv0
            case yv0 => intro w hSw; (try dsimp only at hSw); go_simp <;> (try with_reducible rfl)
            (try simp only [List.getElem_toArray, List.getElem_cons_zero, Act.put, List.setIfInBounds_toArray, List.set_cons_zero, List.set_cons_succ])
            refine wpAnyH_take (i := 1) (v := ?vv1) rfl (by kernel_rfl) (by kernel_rfl) (by kernel_rfl) (fun _ _ _ h => h) (Or.inl ⟨by rfl, ?yv1⟩) (by assumption) ?rv1
            case yv1 => intro w hSw; (try dsimp only at hSw); go_simp <;> (try with_reducible rfl)
            (try simp only [List.getElem_toArray, List.getElem_cons_succ, List.getElem_cons_zero, Act.put, List.setIfInBounds_toArray, List.set_cons_zero, List.set_cons_succ])
            refine wpAnyH_take (i := 2) (v := ?vv2) rfl (by kernel_rfl) (by kernel_rfl) (by kernel_rfl) (fun _ _ _ h => h) (Or.inl ⟨by rfl, ?yv2⟩) (by assumption) ?rv2
            case yv2 => intro w hSw; (try dsimp only at hSw); go_simp <;> (try with_reducible rfl)
            (try simp only [List.getElem_toArray, List.getElem_cons_succ, List.getElem_cons_zero, Act.put, List.setIfInBounds_toArray, List.set_cons_zero, List.set_cons_succ])
            refine wpAnyH_take (i := 3) (v := ?vv3) rfl (by kernel_rfl) (by kernel_rfl) (by kernel_rfl) (fun _ _ _ h => h) (Or.inl ⟨by rfl, ?yv3⟩) (by assumption) ?rv3
            case yv3 => intro w hSw; (try dsimp only at hSw); go_simp <;> (try with_reducible rfl)
            (try simp only [List.getElem_toArray, List.getElem_cons_succ, List.getElem_cons_zero, Act.put, List.setIfInBounds_toArray, List.set_cons_zero, List.set_cons_succ])
            refine wpAnyH_take (i := 4) (v := ?vv4) rfl (by kernel_rfl) (by kernel_rfl) (by kernel_rfl) (fun _ _ _ h => h) (Or.inl ⟨by rfl, ?yv4⟩) (by assumption) ?rv4
            case yv4 => intro w hSw; (try dsimp only at hSw); go_simp <;> (try with_reducible rfl)
            (try simp only [List.getElem_toArray, List.getElem_cons_succ, List.getElem_cons_zero, Act.put, List.setIfInBounds_toArray, List.set_cons_zero, List.set_cons_succ])
            refine' wpAnyH_take (i := 5) (v := _) rfl (by kernel_rfl) (by kernel_rfl) (by kernel_rfl) (fun _ _ _ h => h) (yieldsIf_load_mid (by rfl) _ _ (by rfl) _ _ (by rfl) _ _ ?Sv5 ?uv5 ?dv5 ?iv5) (by assumption) ?rv5
            case Sv5 => exact (by intro w h; exact h.2)
            case uv5 => exact hun
            case dv5 => rfl
            case iv5 => exact hz
            (try simp only [List.getElem_toArray, List.getElem_cons_succ, List.getElem_cons_zero, Act.put, List.setIfInBounds_toArray, List.set_cons_zero, List.set_cons_succ])
            refine wpAnyH_ready (rs := [6]) (by kernel_rfl) (by simp) ?_
            refine AllReadyH.cons rfl (fun K hK => ?_) AllReadyH.nil
            rw [if_pos (by rfl)]
            obtain ⟨w7, hrun, hm7, hgr7⟩ := h6.m.update HPA.out hj63 (by unfold maxLen; omega) X
            refine wp_mapUpdate (.tmp 42) (.tmp 43) (.tmp 44) 103 rfl rfl rfl rfl hrun ?_
            have ho7 : Only [gm] wd w7 := Only.of_grown hgr7 (by simp)
            have hgm := h6.n2
            have hgpm := h6.n3
            have hne9 : g9 ≠ gm := by have := hd3; omega
            have h7 : PRep w7 gd gp gm cp Y (M.step.set j ⟨(M.page j).old, some X⟩) (k + 1) := by
              refine ⟨?_, ?_, hm7, h6.n1, h6.n2, h6.n3⟩
              · rw [HL.out]; exact h6.d.only ho7 (by simpa using hgm)
              · rw [HIM.out]; exact h6.p.only ho7 (by simpa using hgpm)
            have ho8 : Only [gd, gm] w w7 := ho6.trans (ho7.mono (by simp))
            refine hK.out _ _ ⟨h7.d.cell (k := 1) rfl, blk_range ((hB5.next hdd hB5.lt).only ho7 (by simpa using hne9))⟩ (fun hHeld => ?_)
            clear hK K hHeld
            refine wpAnyH_done (by kernel_rfl) ?_ _
            go_wp2
            go_ret
            exact ⟨rfl, h7, ho8⟩
          · have hsf : M.step.up = false := by simpa using hst
            obtain ⟨e1, e2⟩ := write_trip hu hfit hsf
            rw [e1, e2]
            have HP := Lib.hid hp
            have HSF := Lib.hid hsf
            clear e1 e2 hfit hp hst hsf hsl
            go_enter Try.func26, Try.ntmps26
            go_wp2_with fail
            (with_reducible refine (has_any gd gp gm k cp Y M _ true _ HP.out h).mono ?_)
            rintro e w' ⟨rfl, rfl⟩
            go_wp2_with fail
            (with_reducible refine (step_any gd gp gm k cp Y M _ HUP.out hM h).mono ?_)
            rintro e w1 ⟨rfl, h1, ho1⟩
            rw [HSF.out]
            clear c2 h
            go_wp2
            go_ret
            exact ⟨rfl, h1.mono (Nat.le_succ k), ho1.mono (by simp)⟩
        · have hfit : (M.okP i && DM.fits a s.data.toList.length) = false := by
            rw [hp, hsl]; show DM.fits a s.size = false; exact decide_eq_false (fun h => hf h.2)
          obtain ⟨e1, e2⟩ := write_bad hu hfit
          rw [e1, e2]
          have hgt : 128 - (s.size : Int) < a := by omega
          have HP := Lib.hid hp
          have h' := h.mono (Nat.le_succ k)
          clear e1 e2 hfit hp hsl hf
          go_enter Try.func26, Try.ntmps26
          go_wp2_with fail
          (with_reducible refine (has_any gd gp gm k cp Y M _ true _ HP.out h).mono ?_)
          rintro e w' ⟨rfl, rfl⟩
          go_wp2
          go_ret
          exact ⟨rfl, h', Only.refl _ _⟩
      · have hfit : (M.okP i && DM.fits a s.data.toList.length) = false := by
          rw [hp, hsl]; show DM.fits a s.size = false; exact decide_eq_false (fun h => ha h.1)
        obtain ⟨e1, e2⟩ := write_bad hu hfit
        rw [e1, e2]
        have hneg : a < 0 := by omega
        have HP := Lib.hid hp
        have h' := h.mono (Nat.le_succ k)
        clear e1 e2 hfit hp hsl ha
        go_enter Try.func26, Try.ntmps26
        go_wp2_with fail
        (with_reducible refine (has_any gd gp gm k cp Y M _ true _ HP.out h).mono ?_)
        rintro e w' ⟨rfl, rfl⟩
        go_wp2
        go_ret
        exact ⟨rfl, h', Only.refl _ _⟩
    · have hpf : M.okP i = false := by simpa using hp
      have hfit : (M.okP i && DM.fits a s.data.toList.length) = false := by rw [hpf]; rfl
      obtain ⟨e1, e2⟩ := write_bad hu hfit
      rw [e1, e2]
      have HP := Lib.hid hpf
      have h' := h.mono (Nat.le_succ k)
      clear e1 e2 hfit hp hpf hsl
      go_enter Try.func26, Try.ntmps26
      go_wp2_with fail
      (with_reducible refine (has_any gd gp gm k cp Y M _ false _ HP.out h).mono ?_)
      rintro e w' ⟨rfl, rfl⟩
      go_wp2
      go_ret
      exact ⟨rfl, h', Only.refl _ _⟩
end Go.Proofs.Ythgmlopkcgkjlaa
