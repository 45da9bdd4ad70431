/-
  Contracts of the functions that the statement calls, part 27 of 37 (merged texts: Jp9, Jq1, Jq2, Jq3, Jq4, Jq5, Jq6). Conditions: as the head of each part says.
-/
import Derived.Test.YthgmlopkcgkjlaaGZ
import Derived.Laws.Cover3
import Derived.Deep.RegionHeld3

/-
  Contract of the walk over the journal's stream. Conditions: the record and the disk lie there; the disk is up.
-/
namespace Go.Proofs.Ythgmlopkcgkjlaa
open Go.RowKit Go.Shelf

set_option maxRecDepth 100000 in
theorem wpList_getH {ops : Array Oper} {rest : List Oper} {o : Oper} {a : Act} {w : World} {Q : Exit → Act → World → Prop} (hgd : o.guard = none) (ty : TypeId) (x : Operand) (ho : o.op = .load ty x)
    (g : Nat) (hx : a.eval x = .pointer (some ⟨g, 0, none⟩)) {l : List UInt8} (hh : Held w g l) (cs : List Value) (hcs : (l.map B8).take cs.length = cs) (d : TypeDesc)
    (hu : Try.prog.underlying ty = some d) (hd : d.isRow = true) (hi : (Try.prog.info? ty).map (·.size) = some cs.length)
    (h : wpList Try.prog ops Q rest (a.put o.dst (.agg cs.toArray)) w) : wpList Try.prog ops Q (o :: rest) a w := by
  have hrun : (loadVar ty ⟨g, 0, none⟩).run Try.prog w = .ok (.agg cs.toArray) w := run_loadVar_mid w g 0 ty cs d (fun j v hv => by
    rw [← hcs, List.getElem?_take] at hv
    split at hv
    · obtain ⟨ad, e, hc⟩ := hh.holds j v hv
      injection e with e
      rw [← e, addr_mid] at hc
      exact hc
    · cases hv) hu hd hi
  refine wpList_plain hgd fun K hK => ?_
  unfold Oper.wp execOp
  simp only [ho, hx, Instr.loadAt, Instr.sureAddr, Sem.run_bind, Sem.run_pure, Result.andThen_ok, hrun]
  exact hK _ _ h
theorem readUp {M : DM} {i n : Nat} (hup : M.up = true) (hn : M.ps.length = n) (hi : i < n) : M.readS (i : Int) = (M.page i).now ∧ M.readE (i : Int) = 0 := by
  have hp : M.okP (i : Int) = true := by unfold DM.okP; rw [hn]; exact decide_eq_true ⟨by omega, by omega⟩
  unfold DM.readS DM.readE
  rw [hup, hp]
  exact ⟨rfl, rfl⟩
theorem builder_next {T e : TypeId} {B b : Nat} {bs : List Value} {w w' : World} (h : Lib.IsBuilder T e B b bs w) (hb : Below w.heap.size w w') (hl : b < w.heap.size) : Lib.IsBuilder T e B b bs w' := by
  rcases h with ⟨h1, v, hk, hown, hne⟩ | ⟨h1, v, hk, hown, hne⟩
  · exact .inl ⟨h1, v, (hb.block b hl).trans hk, own_only hown (Only.of_below (L := []) hb) (by simp), hne⟩
  · exact .inr ⟨h1, v, (hb.block b hl).trans hk, own_only hown (Only.of_below (L := []) hb) (by simp), hne⟩
theorem builder_only {L : List Nat} {T e : TypeId} {B b : Nat} {bs : List Value} {w w' : World} (h : Lib.IsBuilder T e B b bs w) (ho : Only L w w') (hL : ∀ k ∈ L, k < B) (hl : b < w.heap.size) : Lib.IsBuilder T e B b bs w' := by
  rcases h with ⟨h1, v, hk, hown, hne⟩ | ⟨h1, v, hk, hown, hne⟩
  · exact .inl ⟨h1, v, (ho.block b hl (fun hm => by have := hL b hm; omega)).trans hk, own_only hown ho hL, hne⟩
  · exact .inr ⟨h1, v, (ho.block b hl (fun hm => by have := hL b hm; omega)).trans hk, own_only hown ho hL, hne⟩
theorem write_str (B b : Nat) (bs : List Value) (s : ByteArray) (w : World) (h : Lib.IsBuilder 139 5 B b bs w) (hlen : bs.length + s.size ≤ 1000000) (hBw : B ≤ w.heap.size) :
    Calls Try.prog 103 #[.pointer (some ⟨b, 0, none⟩), .string s] w fun e w' => e = .returned (.tuple #[.int .i64 s.size, .nilIface]) ∧ Lib.BuilderAt 139 5 B b (.pointer (some ⟨b, 0, none⟩)) (bs ++ s.data.toList.map B8) w' ∧ Below B w w' := by
  have hL : Lays.n166 Try.prog Try.repeatA_ren := { Try.repeatA with }
  exact Any.Builder_WriteString hL Try.repeatX B b bs s w h (by omega) hBw
theorem text_str (B b : Nat) (l : List UInt8) (w : World) (h : Lib.IsBuilder 139 5 B b (l.map B8) w) (hBw : B ≤ w.heap.size) :
    Calls Try.prog 105 #[.pointer (some ⟨b, 0, none⟩)] w fun e w' => e = .returned (.string ⟨l.toArray⟩) ∧ Below B w w' := by
  have hL : Lays.n169 Try.prog Try.repeatA_ren := { Try.repeatA with }
  exact Any.Builder_String_any hL Try.repeatX B b l w h hBw
/-- The first bytes of the stream from page f on, after j pages. -/
def rdTo (M : DM) (f z : Nat) : Nat → List UInt8
  | 0 => []
  | j + 1 => rdTo M f z j ++ ((M.page (f + j)).now).take (min 128 (z - 128 * j))
theorem rdTo_length (M : DM) (f z : Nat) : ∀ j, (rdTo M f z j).length ≤ 128 * j
  | 0 => Nat.le_refl _
  | j + 1 => by
    have := rdTo_length M f z j
    unfold rdTo
    rw [List.length_append, List.length_take]
    omega
def headAt (M : DM) (half : Nat) : List UInt8 := ((M.page 1).now.drop (half * 16)).take 16
/-- What the stream's reading answers on a disk that is up. -/
def streamR (M : DM) (n half : Nat) : ByteArray × Int :=
  if capOf n < JM.sizeN (headAt M half) 4 then (⟨#[]⟩, 7)
  else if headAt M half = JM.headB (JM.sizeN (headAt M half) 4) (JM.sumF 0 (rdTo M (2 + half * hpOf n) (JM.sizeN (headAt M half) 4) ((JM.sizeN (headAt M half) 4 + 127) / 128))) then (⟨(rdTo M (2 + half * hpOf n) (JM.sizeN (headAt M half) 4) ((JM.sizeN (headAt M half) 4 + 127) / 128)).toArray⟩, 0) else (⟨#[]⟩, 7)
set_option maxRecDepth 100000 in
set_option maxHeartbeats 3200000 in
theorem stream_any (gj half : Nat) (A : Option Addr) (c : Nat) (l : List ByteArray) (cl : Bool) (gd gp gm k cp : Nat) (Y : List Value) (M : DM) (n : Nat) (w : World) (hx : half ≤ 1) (hM : M.ok) (hn : M.ps.length = n) (h4 : 4 ≤ n) (h40 : n ≤ 40) (hup : M.up = true) (h : PRep w gd gp gm cp Y M k) (hj : JRec w gj gd half A c l cl) :
    Calls Try.prog 93 #[.pointer (some ⟨gj, 0, none⟩)] w fun e w' => e = .returned (.tuple #[.string (streamR M n half).1, .int .i64 (streamR M n half).2]) ∧ Below w.heap.size w w' := by
  obtain ⟨SR, hSR⟩ : ∃ SR, Hid (streamR M n half = SR) := ⟨_, rfl⟩
  rw [hSR.out]
  have c0 := hj.d.cell (k := 0) rfl
  have c1 := hj.d.cell (k := 1) rfl
  have HM := Lib.hid hM
  have hpg := Lib.hid (readUp (i := 1) hup hn (by omega))
  obtain ⟨P1, hP1⟩ : ∃ P1, (M.page 1).now = P1 := ⟨_, rfl⟩
  have hR1 : Hid (M.readS 1 = P1) := by
    have : M.readS 1 = P1 := by rw [← hP1]; exact hpg.out.1
    exact this
  have hE1 : Hid (M.readE 1 = 0) := by
    have : M.readE 1 = 0 := hpg.out.2
    exact this
  have hPl : Hid (P1.length = 128) := by
    have : P1.length = 128 := by rw [← hP1]; exact Pg.now_length (DM.page_ok hM (by omega))
    exact this
  obtain ⟨q, hq⟩ : ∃ q, half * 16 = q := ⟨_, rfl⟩
  have hqi : (half : Int) * 16 = (q : Int) := by omega
  have hq16 : q ≤ 16 := by omega
  have hql : (q : Int) ≤ (P1.length : Int) := by rw [hPl.out]; omega
  have HH := Lib.hid h
  have HJ := Lib.hid hj
  have HP1 := Lib.hid hP1
  have HQ := Lib.hid hq
  clear hM hpg hP1 hq
  go_enter Try.func93, Try.ntmps93
  go_wp2_with fail
  (with_reducible refine (read_any gd gp gm k cp Y M 1 P1 0 _ HM.out hR1.out hE1.out h).mono ?_)
  rintro e w2 ⟨rfl, hb2⟩
  have h2 := h.next hb2
  have j2 := hj.next hb2
  have c0' := j2.d.cell (k := 0) rfl
  have c1' := j2.d.cell (k := 1) rfl
  clear c0 c1 h hj
  go_wp2_with (with_reducible refine wpList_bytesH (o := ⟨some 33, .convert 9 110 (.tmp 32), _, _, _, _⟩) (by with_unfolding_all rfl) (.tmp 32) (by with_unfolding_all rfl) _ (by with_unfolding_all rfl) ?_)
  intro gB cB w3 hgB hb3 hH3
  obtain ⟨T, hT⟩ : ∃ T, List.take (P1.length - q) (List.drop q P1) = T := ⟨_, rfl⟩
  rw [hT] at hH3
  have hTl : T.length = 128 - q := by rw [← hT, List.length_take, List.length_drop, hPl.out]; omega
  obtain ⟨HB, hHB⟩ : ∃ HB, (P1.drop q).take 16 = HB := ⟨_, rfl⟩
  have hHl : HB.length = 16 := by rw [← hHB, List.length_take, List.length_drop, hPl.out]; omega
  have hTH : Hid ((T.map B8).take (HB.map B8).length = HB.map B8) := by
    have : (T.map B8).take (HB.map B8).length = HB.map B8 := by
      rw [List.length_map, hHl, ← List.map_take, ← hT, ← hHB, List.take_take, hPl.out, show min 16 (128 - q) = 16 by omega]
    exact this
  have HHL := Lib.hid hHl
  have HHB := Lib.hid hHB
  have hun := Try.underlying149
  have hTq : (16 : Int) ≤ ((128 - q : Nat) : Int) := by omega
  have hat : ∀ w, (Instr.arrayAt 149 (.slice (some ⟨gB, 0, none⟩) (P1.length - q) cB)).run Try.prog w = .ok (.pointer (some ⟨gB, 0, none⟩)) w := fun w => run_arrayAt w 149 _ 16 _ (P1.length - q) cB Try.underlying149 (by rw [hPl.out]; omega)
  clear hT hHB hHl
  go_wp2_with (first | (with_reducible refine wpList_getH (o := ⟨some 35, .load 149 (.tmp 34), _, _, _, _⟩) (by with_unfolding_all rfl) 149 (.tmp 34) (by with_unfolding_all rfl) gB (by with_unfolding_all rfl) hH3 (HB.map B8) hTH.out _ (by with_unfolding_all exact hun) (by with_unfolding_all rfl) (by with_unfolding_all (rw [List.length_map, HHL.out]; exact Try.sizeH)) ?_) | (with_reducible refine wpList_alloc (o := ⟨some 6, .alloc 149, _, _, _, _⟩) (by with_unfolding_all rfl) 149 (by with_unfolding_all rfl) (.agg H16.toArray) H16 (by exact Try.zeroH) (by with_unfolding_all rfl) ?_))
  intro g6 w4 hg6 hs4 hb4 hB4
  have hle6 : w3.heap.size ≤ g6 := Nat.le_of_eq hg6.out.symm
  obtain ⟨ZH, hZH⟩ : ∃ ZH, Hid (H16 = ZH) := ⟨_, rfl⟩
  have hZl : Hid (ZH.length = 16) := by
    have : ZH.length = 16 := by rw [← hZH.out]; exact H16_length
    exact this
  rw [hZH.out] at hB4
  have hBHl : Hid ((HB.map B8).length = 16) := by
    have : (HB.map B8).length = 16 := by rw [List.length_map]; exact HHL.out
    exact this
  have hb13 := below_join hb2 hb3
  have hb14 : Below w.heap.size w w4 := hb13.trans (hb4.mono (Nat.le_trans hb13.size hle6))
  have hle06 : w.heap.size ≤ g6 := Nat.le_trans hb13.size hle6
  clear hat hH3 hb2 hb3 hb4 hb13 h2 j2 c0' c1' hs4 hg6
  go_wp2_with (with_reducible refine wpList_put (o := ⟨none, .store 149 (.tmp 6) (.tmp 35), _, _, _, _⟩) (by with_unfolding_all rfl) 149 (.tmp 6) (.tmp 35) (by with_unfolding_all rfl) g6 0 (by with_unfolding_all rfl) (.agg (HB.map B8).toArray) (by with_unfolding_all rfl) hB4 (HB.map B8) (by with_unfolding_all rfl) (by with_unfolding_all (rw [hBHl.out]; exact Try.sizeH)) (by with_unfolding_all (rw [hBHl.out, hZl.out]; exact Nat.le_refl _)) (B8_one _) ?_)
  intro w5 hu5 hB5
  rw [splice_all _ _ (by rw [hBHl.out, hZl.out])] at hB5
  have hb15 := hb14.trans (hu5.below (B := w.heap.size) hle06)
  have h5 := HH.out.next hb15
  have j5 := HJ.out.next hb15
  have c0 := j5.d.cell (k := 0) rfl
  have c1 := j5.d.cell (k := 1) rfl
  clear hB4 hb14 hu5 hTH hTl hTq hZH hZl hle6 hgB
  have hsz0 := JM.sizeN_lt HB 4
  obtain ⟨z, hz⟩ : ∃ z, JM.sizeN HB 4 = z := ⟨_, rfl⟩
  rw [hz] at hsz0
  have HZ := Lib.hid hz
  clear hz
  go_wp2_with (first | (with_reducible refine wpList_get (o := ⟨some 36, .load 149 (.tmp 6), _, _, _, _⟩) (by with_unfolding_all rfl) 149 (.tmp 6) (by with_unfolding_all rfl) g6 0 (by with_unfolding_all rfl) hB5 (HB.map B8) (cs_all _) _ (by with_unfolding_all exact hun) (by with_unfolding_all rfl) (by with_unfolding_all (rw [hBHl.out]; exact Try.sizeH)) ?_) | fail)
  (with_reducible refine (hsize_any HB _ HHL.out).mono ?_)
  rintro e w6 ⟨rfl, hb6⟩
  rw [HZ.out]
  have hb16 := below_join hb15 hb6
  have hB6 := hB5.next hb6 hB5.lt
  have h6 := HH.out.next hb16
  have j6 := HJ.out.next hb16
  have HHM : Hid (headAt M half = HB) := by
    have : headAt M half = HB := by unfold headAt; rw [HP1.out, HQ.out, HHB.out]
    exact this
  have hzi : (z : Int) ≤ 4294967296 := by omega
  clear hB5 hb6 hb15 h5 j5 c0 c1
  go_wp2_with fail
  (with_reducible refine (jcap_any gj half A c l cl gd gp gm k cp Y M n _ hn h4 h40 h6 j6).mono ?_)
  rintro e w7 ⟨rfl, rfl⟩
  obtain ⟨C, hC⟩ : ∃ C, Hid (capOf n = C) := ⟨_, rfl⟩
  have hCb : C ≤ 2432 := by rw [← hC.out]; unfold capOf; omega
  rw [hC.out]
  by_cases hcz : C < z
  · have hSz : Hid (SR = (⟨#[]⟩, 7)) := by
      have : SR = (⟨#[]⟩, 7) := by rw [← hSR.out]; unfold streamR; rw [HHM.out, HZ.out, hC.out, if_pos hcz]
      exact this
    have hczi : (C : Int) < (z : Int) := by omega
    clear hB6 h6 j6
    go_wp2
    go_ret2
    exact ⟨by rw [hSz.out]; rfl, hb16⟩
  · have hczi : (z : Int) ≤ (C : Int) := by omega
    have hzb : z ≤ 2432 := by omega
    have hSz : Hid (SR = if HB = JM.headB z (JM.sumF 0 (rdTo M (2 + half * hpOf n) z ((z + 127) / 128))) then (⟨(rdTo M (2 + half * hpOf n) z ((z + 127) / 128)).toArray⟩, 0) else (⟨#[]⟩, 7)) := by
      have : SR = if HB = JM.headB z (JM.sumF 0 (rdTo M (2 + half * hpOf n) z ((z + 127) / 128))) then (⟨(rdTo M (2 + half * hpOf n) z ((z + 127) / 128)).toArray⟩, 0) else (⟨#[]⟩, 7) := by rw [← hSR.out]; unfold streamR; rw [HHM.out, HZ.out, hC.out, if_neg hcz]
      exact this
    clear hSR
    go_wp2_with fail
    (with_reducible refine (summer_any _).mono ?_)
    rintro e w8 ⟨gs, rfl, hS8, hb8, hgs⟩
    have hb18 := below_join hb16 hb8
    have hB8' := hB6.next hb8 hB6.lt
    have h8 := HH.out.next hb18
    have j8 := HJ.out.next hb18
    have hgs0 : w.heap.size ≤ gs := Nat.le_trans hb16.size hgs
    have hg6s : g6 ≠ gs := fun e => by have := hB6.lt; omega
    clear hB6 hb16 hb8 h6 j6 hgs
    go_wp2_with fail
    (with_reducible refine (summer1_any gs 0 ⟨#[]⟩ _ (by decide) hS8).mono ?_)
    rintro e w9 ⟨rfl, hS9, ho9⟩
    go_wp2_with fail
    have hb19 := below_only hb18 ho9 (by simpa using hgs0) hb18.size
    have hgsl : gs < w9.heap.size := hS9.lt
    have hg6l : g6 < w9.heap.size := Nat.lt_of_lt_of_le hB8'.lt ho9.size
    have hB9 := hB8'.only ho9 (by simpa using hg6s)
    obtain ⟨gb, hgb⟩ : ∃ gb, Hid (w9.heap.size = gb) := ⟨_, rfl⟩
    have hIB : Lib.IsBuilder 139 5 gb gb (([] : List UInt8).map B8) (w9.alloc (.cells #[.pointer none, .slice none 0 0] 139)) :=
      .inl ⟨Nat.le_refl _, .slice none 0 0, by rw [← hgb.out]; exact World.alloc_heap_new w9 _, World.ownsRow_nil _ _ _ _, by intro h; cases h⟩
    have hba := below_new w9 (.cells #[.pointer none, .slice none 0 0] 139)
    have hb20 := below_join hb19 hba
    have hSa := hS9.next hba hS9.lt
    have hBa := hB9.next hba hB9.lt
    obtain ⟨wa, hwa⟩ : ∃ wa, Hid (w9.alloc (.cells #[.pointer none, .slice none 0 0] 139) = wa) := ⟨_, rfl⟩
    have hgbl : Hid (gb < wa.heap.size) := by
      have : gb < wa.heap.size := by rw [← hwa.out, ← hgb.out]; simp
      exact this
    have hgw : Hid (w.heap.size ≤ gb) := by
      have : w.heap.size ≤ gb := by rw [← hgb.out]; exact hb19.size
      exact this
    rw [hwa.out] at hIB hb20 hSa hBa
    rw [hgb.out] at hgsl hg6l
    rw [hwa.out, hgb.out]
    have HMz := Lib.hid (show (JM.sumF 0 [] : Nat) = 0 from rfl)
    obtain ⟨f, hf⟩ : ∃ f, 2 + half * hpOf n = f := ⟨_, rfl⟩
    clear hS8 hB8' h8 j8 hb18 ho9 hS9 hB9 hb19 hba hwa
    go_loopw [9, 11] (fun sv iv wr => ∃ j a : Nat, a = 128 * j ∧ a < z + 128 ∧ iv = .int .i64 (a : Int) ∧ sv = .int .u64 (JM.sumF 0 (rdTo M f z j) : Nat) ∧ Blk wr gs 152 [.int .u64 (JM.sumF 0 (rdTo M f z j) : Nat)] ∧ Lib.IsBuilder 139 5 gb gb ((rdTo M f z j).map B8) wr ∧ Blk wr g6 149 (HB.map B8) ∧ Below w.heap.size w wr ∧ gb < wr.heap.size) (fun _ iv _ => z + 128 - natOf iv)
    case atStart => exact ⟨0, 0, rfl, by omega, rfl, rfl, hSa, hIB, hBa, hb20, hgbl.out⟩
    case round =>
      clear hIB hb20 hSa hBa
      obtain ⟨j, a, ha, haz, rfl, rfl, hS, hI, hB, hbr, hgr⟩ := hrel
      by_cases hlt : a < z
      · have hlti : (a : Int) < (z : Int) := by omega
        have hhp : C = hpOf n * 128 := by rw [← hC.out]; rfl
        have hfn : f + j < n := by
          have h1 : j < hpOf n := by omega
          have h2 : half * hpOf n ≤ 1 * hpOf n := Nat.mul_le_mul_right _ hx
          have h3 : 2 * hpOf n ≤ n - 2 := by unfold hpOf; omega
          omega
        have hpr := Lib.hid (readUp (i := f + j) hup hn hfn)
        obtain ⟨PJ, hPJ⟩ : ∃ PJ, (M.page (f + j)).now = PJ := ⟨_, rfl⟩
        have hRJ : Hid (M.readS ((f + j : Nat) : Int) = PJ) := by
          have : M.readS ((f + j : Nat) : Int) = PJ := by rw [← hPJ]; exact hpr.out.1
          exact this
        have hEJ : Hid (M.readE ((f + j : Nat) : Int) = 0) := by
          have : M.readE ((f + j : Nat) : Int) = 0 := hpr.out.2
          exact this
        have hPJl : Hid (PJ.length = 128) := by
          have : PJ.length = 128 := by rw [← hPJ]; exact Pg.now_length (DM.page_ok HM.out (by omega))
          exact this
        have hnx : Hid (rdTo M f z (j + 1) = rdTo M f z j ++ PJ.take (min 128 (z - a))) := by
          have : rdTo M f z (j + 1) = rdTo M f z j ++ PJ.take (min 128 (z - a)) := by rw [← hPJ, ha]; rfl
          exact this
        have hdv : (a : Int).tdiv 128 = (j : Int) := by rw [Int.tdiv_eq_ediv_of_nonneg (by omega)]; omega
        have h9 := HH.out.next hbr
        have j9 := HJ.out.next hbr
        have c0 := j9.d.cell (k := 0) rfl
        have c1 := j9.d.cell (k := 1) rfl
        have HA := Lib.hid ha
        have hjb : j ≤ 4096 := by omega
        have hfb : f ≤ 4096 := by omega
        clear hpr hPJ ha hhp
        have hcell : ∀ w', Below wr.heap.size wr w' → w'.cell? ⟨gj, 0, none⟩ = some (.pointer (some ⟨gd, 0, none⟩)) ∧ w'.cell? ⟨gj, 1, none⟩ = some (.int .i64 (half : Int)) := fun w' hb => ⟨(j9.next hb).d.cell (k := 0) rfl, (j9.next hb).d.cell (k := 1) rfl⟩
        have HCL := Lib.hid hcell
        have hfi : IntKind.i64.wrap ((f : Int) + (j : Int)) = ((f + j : Nat) : Int) := by rw [IntWalk.i64_in _ ⟨by omega, by omega⟩]; omega
        have hdw : IntKind.i64.wrap (j : Int) = (j : Int) := IntWalk.i64_in _ ⟨by omega, by omega⟩
        clear hcell h9
        go_wp2
        go_region_held3 (fun w' => Below wr.heap.size wr w' ∧ w'.cell? ⟨gj, 0, none⟩ = some (.pointer (some ⟨gd, 0, none⟩)) ∧ w'.cell? ⟨gj, 1, none⟩ = some (.int .i64 (half : Int)))
          (first | assumption | exact ⟨by (first | assumption | exact (Below.refl _ _).drew | exact Below.refl _ _ | exact below_join (by first | assumption | exact (Below.refl _ _).drew | exact Below.refl _ _) hbR), HCL.out _ (by (first | assumption | exact (Below.refl _ _).drew | exact Below.refl _ _ | exact below_join (by first | assumption | exact (Below.refl _ _).drew | exact Below.refl _ _) hbR))⟩)
          (first
          | (go_at_call 112; refine (jfirst_any gj half A c l cl gd gp gm k cp Y M n half _ hx hn h4 h40 (HH.out.next (below_join hbr (by (first | assumption | exact (Below.refl _ _).drew | exact Below.refl _ _)))) (HJ.out.next (below_join hbr (by (first | assumption | exact (Below.refl _ _).drew | exact Below.refl _ _))))).mono ?_; rintro e w' ⟨rfl, rfl⟩; rw [hf])
          | (go_at_call 23; refine (read_any gd gp gm k cp Y M _ PJ 0 _ HM.out hRJ.out hEJ.out (HH.out.next (below_join hbr (by (first | assumption | exact (Below.refl _ _).drew | exact Below.refl _ _))))).mono ?_; rintro e wR ⟨rfl, hbR⟩))
        have hbr2 : Below wr.heap.size wr wR := by (first | assumption | exact below_join (by first | assumption | exact (Below.refl _ _).drew | exact Below.refl _ _) hbR)
        have hbz := below_join hbr hbr2
        have hSz2 := hS.next hbr2 hS.lt
        have hBz := hB.next hbr2 hB.lt
        have hIz := builder_next hI hbr2 hgr
        have hgz : gb < wR.heap.size := Nat.lt_of_lt_of_le hgr hbr2.size
        obtain ⟨m, hm⟩ : ∃ m, min 128 (z - a) = m := ⟨_, rfl⟩
        have hm128 : m ≤ 128 := by omega
        have hmi : min (128 : Int) ((z : Int) - (a : Int)) = (m : Int) := by omega
        have hmle : (m : Int) ≤ (PJ.length : Int) := by rw [hPJl.out]; omega
        rw [hm] at hnx
        have hsp : Hid (((⟨PJ.toArray⟩ : ByteArray).extract 0 m).data.toList = PJ.take m) := by
          have : ((⟨PJ.toArray⟩ : ByteArray).extract 0 m).data.toList = PJ.take m := by
            rw [ByteArray.data_extract, Array.toList_extract]; simp [List.extract_eq_take_drop]
          exact this
        have hTl : Hid ((rdTo M f z j).length ≤ 128 * j) := by
          have : (rdTo M f z j).length ≤ 128 * j := rdTo_length M f z j
          exact this
        have hj40 : j ≤ 40 := by omega
        clear hS hB hI hbr hgr hbR hdv hfi hdw c0 c1 j9 hm
        go_wp2_with fail
        (with_reducible refine (summer1_any gs (JM.sumF 0 (rdTo M f z j)) _ _ ?szq hSz2).mono ?_)
        case szq => rw [← bytes_size, hsp.out, List.length_take]; omega
        rintro e wS ⟨rfl, hSS, hoS⟩
        have hbS := below_only hbz hoS (by simpa using hgs0) hbz.size
        have hBS := hBz.only hoS (by simpa using hg6s)
        have hIS := builder_only hIz hoS (by intro k hk; simp at hk; omega) hgz
        have hgS : gb < wS.heap.size := Nat.lt_of_lt_of_le hgz hoS.size
        rw [hsp.out, ← JM.sumF_append, ← hnx.out] at hSS ⊢
        clear hSz2 hBz hIz hbz hgz hoS
        go_wp2_with fail
        (with_reducible refine (write_str gb gb ((rdTo M f z j).map B8) _ _ hIS ?szr (Nat.le_of_lt hgS)).mono ?_)
        case szr => rw [List.length_map, ← bytes_size, hsp.out, List.length_take]; have := hTl.out; omega
        rintro e wW ⟨rfl, hIW, hbW⟩
        have hIW2 : Lib.IsBuilder 139 5 gb gb ((rdTo M f z (j + 1)).map B8) wW := by
          refine .inr ?_
          rw [hnx.out, List.map_append, ← hsp.out]
          exact hIW
        have hbW2 := hbS.trans (hbW.mono hgw.out)
        have hSW := hSS.next hbW hgsl
        have hBW := hBS.next hbW hg6l
        have hgW : gb < wW.heap.size := Nat.lt_of_lt_of_le hgS hbW.size
        clear hSS hBS hIS hbS hgS hIW hbW
        go_wp2
        go_roundw
        case rel => exact ⟨j + 1, a + 128, by rw [HA.out]; omega, by omega, by go_num, rfl, hSW, hIW2, hBW, hbW2, hgW⟩
        case measure => simp [natOf]; omega
      · have hje : j = (z + 127) / 128 := by omega
        have hle : (z : Int) ≤ (a : Int) := by omega
        rw [hf, ← hje] at hSz
        obtain ⟨TX, hTX⟩ : ∃ TX, rdTo M f z j = TX := ⟨_, rfl⟩
        rw [hTX] at hSz hI
        obtain ⟨sm, hsm⟩ : ∃ sm, JM.sumF 0 TX = sm := ⟨_, rfl⟩
        have hsmb : sm < 18446744073709551616 := by rw [← hsm]; exact JM.sumF_lt TX 0 JM.W_pos
        rw [hTX, hsm]
        rw [hsm] at hSz
        obtain ⟨H2, hH2⟩ : ∃ H2, Hid (JM.headB z sm = H2) := ⟨_, rfl⟩
        have hH2l : Hid (H2.length = 16) := by
          have : H2.length = 16 := by rw [← hH2.out]; exact JM.stage2_length z sm 8
          exact this
        rw [hH2.out] at hSz
        have hrg : ∀ w', Below wr.heap.size wr w' → w'.rangeAt g6 0 (HB.map B8) := fun w' hb j u hu => by rw [Nat.zero_add]; exact (hB.next hb hB.lt).cell hu
        have HRG := Lib.hid hrg
        have hneq : ∀ w, (binOp .neq 149 (.agg (HB.map B8).toArray) (.agg (H2.map B8).toArray)).run Try.prog w = .ok (.bool (!decide (HB = H2))) w := fun w => neq_arr w _ 16 Try.underlying149 HB H2 HHL.out hH2l.out
        have hgd := head_guard
        have hrg0 := HRG.out wr (Below.refl _ _)
        have hsz6 : (Try.prog.info? 149).map (·.size) = some (HB.map B8).length := by rw [hBHl.out]; exact Try.sizeH
        have HSM := Lib.hid hsmb
        have hz32 : z ≤ 4294967295 := by omega
        clear hS hTX hsm hje hrg hsmb
        go_wp2
        go_region_held3 (fun w' => Below wr.heap.size wr w' ∧ w'.rangeAt g6 0 (HB.map B8))
          (first | assumption | exact ⟨by (first | assumption | exact (Below.refl _ _).drew | exact Below.refl _ _ | exact below_join (by first | assumption | exact (Below.refl _ _).drew | exact Below.refl _ _) hbR), HRG.out _ (by (first | assumption | exact (Below.refl _ _).drew | exact Below.refl _ _ | exact below_join (by first | assumption | exact (Below.refl _ _).drew | exact Below.refl _ _) hbR))⟩)
          (first
          | (go_at_call 113; refine (headOf_any z sm _ hz32 HSM.out).mono ?_; rintro e wR ⟨rfl, hbR⟩; rw [hH2.out]))
        have hbr2 : Below wr.heap.size wr wR := by (first | assumption | exact below_join (by first | assumption | exact (Below.refl _ _).drew | exact Below.refl _ _) hbR)
        have hbz := below_join hbr hbr2
        have hIz := builder_next hI hbr2 hgr
        have hgz : gb ≤ wR.heap.size := Nat.le_of_lt (Nat.lt_of_lt_of_le hgr hbr2.size)
        clear hI hB hbr hgr hbR hbr2 hneq hrg0
        by_cases hq2 : HB = H2
        · have hd : decide (HB = H2) = true := decide_eq_true hq2
          have hSf : Hid (SR = (⟨TX.toArray⟩, 0)) := by
            have : SR = (⟨TX.toArray⟩, 0) := by rw [hSz.out, if_pos hq2]
            exact this
          rw [hd]
          clear hSz hq2 hd
          go_wp2_with fail
          (with_reducible refine (text_str gb gb TX _ hIz hgz).mono ?_)
          rintro e wT ⟨rfl, hbT⟩
          have hbE := hbz.trans (hbT.mono hgw.out)
          clear hIz hbT hbz hgz
          go_wp2
          go_ret2
          exact ⟨by rw [hSf.out]; rfl, hbE⟩
        · have hd : decide (HB = H2) = false := decide_eq_false hq2
          have hSf : Hid (SR = (⟨#[]⟩, 7)) := by
            have : SR = (⟨#[]⟩, 7) := by rw [hSz.out, if_neg hq2]
            exact this
          rw [hd]
          clear hSz hIz hgz hd
          go_wp2
          go_ret2
          exact ⟨by rw [hSf.out]; rfl, hbz⟩
end Go.Proofs.Ythgmlopkcgkjlaa

/-
  A head in plain words: its bytes, its size. Conditions: none.
-/
namespace Go.Proofs.Ythgmlopkcgkjlaa
open Go.RowKit Go.Shelf

theorem headB_list (z sm : Nat) : JM.headB z sm = [JM.byteAt z 0, JM.byteAt z 1, JM.byteAt z 2, JM.byteAt z 3, JM.byteAt z 0, JM.byteAt z 1, JM.byteAt z 2, JM.byteAt z 3, JM.byteAt sm 0, JM.byteAt sm 1, JM.byteAt sm 2, JM.byteAt sm 3, JM.byteAt sm 4, JM.byteAt sm 5, JM.byteAt sm 6, JM.byteAt sm 7] := by
  rfl
theorem byteAt_toNat (z j : Nat) : (JM.byteAt z j).toNat = z / 2 ^ (8 * j) % 256 := by
  unfold JM.byteAt
  rw [UInt8.toNat_ofNat']
theorem size_headB (z sm : Nat) (hz : z < 4294967296) : JM.sizeN (JM.headB z sm) 4 = z := by
  rw [headB_list]
  show 0 + 256 ^ 0 * (JM.byteAt z 0).toNat + 256 ^ 1 * (JM.byteAt z 1).toNat + 256 ^ 2 * (JM.byteAt z 2).toNat + 256 ^ 3 * (JM.byteAt z 3).toNat = z
  rw [byteAt_toNat, byteAt_toNat, byteAt_toNat, byteAt_toNat]
  show 0 + 1 * (z / 1 % 256) + 256 * (z / 256 % 256) + 65536 * (z / 65536 % 256) + 16777216 * (z / 16777216 % 256) = z
  omega
theorem headB_zero : JM.headB 0 0 = List.replicate 16 0 := by decide +kernel
/-- The disk's pages from f on begin with the stream S, as the program reads them. -/
def LaidS (M : DM) (f : Nat) (S : List UInt8) : Prop := ∀ j, 128 * j < S.length → ((M.page (f + j)).now).take (min 128 (S.length - 128 * j)) = (S.drop (128 * j)).take 128
theorem rdTo_stream {M : DM} {f : Nat} {S : List UInt8} (h : LaidS M f S) : ∀ j, rdTo M f S.length j = S.take (128 * j)
  | 0 => by simp [rdTo]
  | j + 1 => by
    unfold rdTo
    rw [rdTo_stream h j]
    by_cases hj : 128 * j < S.length
    · rw [h j hj, show 128 * (j + 1) = 128 * j + 128 by omega, List.take_add]
    · rw [show S.length - 128 * j = 0 by omega, Nat.min_zero, List.take_zero, List.append_nil, List.take_of_length_le (by omega), List.take_of_length_le (by omega)]
/-- A disk that holds a stream with its head: reading answers the stream. -/
theorem streamR_good {M : DM} {n half : Nat} {S : List UInt8} (hS : S.length ≤ capOf n) (hn : n ≤ 40) (hh : headAt M half = JM.headB S.length (JM.sumF 0 S)) (hl : LaidS M (2 + half * hpOf n) S) : streamR M n half = (⟨S.toArray⟩, 0) := by
  have hc : capOf n ≤ 2432 := by unfold capOf; omega
  unfold streamR
  rw [hh, size_headB _ _ (by omega), if_neg (by omega), rdTo_stream hl, List.take_of_length_le (by omega), if_pos rfl]
end Go.Proofs.Ythgmlopkcgkjlaa

/-
  Contract of the walk over the journal's load, on a disk that holds a journal. Conditions: the record and the disk lie there; the disk is up.
-/
namespace Go.Proofs.Ythgmlopkcgkjlaa
open Go.RowKit Go.Shelf

set_option maxRecDepth 100000 in
set_option maxHeartbeats 1600000 in
theorem load_good (gj : Nat) (x : Nat) (mk : UInt8) (l : List ByteArray) (gd gp gm k cp : Nat) (Y : List Value) (M : DM) (n : Nat) (w : World) (hx : x ≤ 1) (hmk : (M.page 0).now[0]? = some mk) (hmx : halfOf mk = (x : Int)) (hst : streamR M n x = (⟨(JM.stream l).toArray⟩, 0)) (hu : JM.useR l ≤ 1000000) (h65 : ∀ r ∈ l, r.size < 65536) (hM : M.ok) (hn : M.ps.length = n) (h4 : 4 ≤ n) (h40 : n ≤ 40) (hup : M.up = true) (hjd : gj ≠ gd ∧ gj ≠ gp ∧ gj ≠ gm) (h : PRep w gd gp gm cp Y M k) (hj : JRec w gj gd 0 none 0 [] false) :
    Calls Try.prog 74 #[.pointer (some ⟨gj, 0, none⟩)] w fun e w' => e = .returned (.int .i64 0) ∧ (∃ A c, JRec w' gj gd x A c l false ∧ OwnC w.heap.size A l.length c) ∧ Only [gj] w w' := by
  have HM := Lib.hid hM
  have hpg := Lib.hid (readUp (i := 0) hup hn (by omega))
  obtain ⟨P0, hP0⟩ : ∃ P0, (M.page 0).now = P0 := ⟨_, rfl⟩
  have hR0 : Hid (M.readS 0 = P0) := by
    have : M.readS 0 = P0 := by rw [← hP0]; exact hpg.out.1
    exact this
  have hE0 : Hid (M.readE 0 = 0) := by
    have : M.readE 0 = 0 := hpg.out.2
    exact this
  have hPl : Hid (P0.length = 128) := by
    have : P0.length = 128 := by rw [← hP0]; exact Pg.now_length (DM.page_ok hM (by omega))
    exact this
  rw [hP0] at hmk
  have E0 : ∀ h : 0 < (⟨P0.toArray⟩ : ByteArray).size, (⟨P0.toArray⟩ : ByteArray)[0]'h = mk := str_at' (by simpa using hmk)
  have HH := Lib.hid h
  have HJ := Lib.hid hj
  have c0 := hj.d.cell (k := 0) rfl
  clear hM hpg hP0 hmk
  go_enter Try.func74, Try.ntmps74
  go_wp2_with fail
  (with_reducible refine (read_any gd gp gm k cp Y M 0 P0 0 _ HM.out hR0.out hE0.out h).mono ?_)
  rintro e w2 ⟨rfl, hb2⟩
  have j2 := HJ.out.next hb2
  have c0' := j2.d.cell (k := 0) rfl
  have c1' := j2.d.cell (k := 1) rfl
  have hp0 : (0 : Nat) < P0.length := by rw [hPl.out]; omega
  clear c0 h hj
  go_wp2_with fail
  (with_reducible refine (mark_index mk _).mono ?_)
  rintro e w2' ⟨rfl, hw22⟩
  subst hw22
  rw [hmx]
  have hB2 := j2.d
  clear E0 hmx c0' c1' j2
  go_wp2_with (with_reducible refine wpList_put (o := ⟨none, .store 3 (.tmp 24) (.tmp 22), _, _, _, _⟩) (by with_unfolding_all rfl) 3 (.tmp 24) (.tmp 22) (by with_unfolding_all rfl) gj 1 (by with_unfolding_all rfl) (.int .i64 (x : Int)) (by with_unfolding_all rfl) hB2 [(.int .i64 (x : Int))] (by with_unfolding_all rfl) (by with_unfolding_all exact Try.sz3) (by with_unfolding_all simp) (by with_unfolding_all exact one_cell1 rfl) ?_)
  intro w3 hu3 hB3
  have hB3' : Blk w3 gj 118 [.pointer (some ⟨gd, 0, none⟩), .int .i64 (x : Int), .slice none 0 0, .bool false] := hB3
  have ho3 : Only [gj] w w3 := (Only.of_below hb2).trans (Only.of_upd hu3 (by simp))
  have h3 := HH.out.only ho3 (by simp; omega) (by simp; omega) (by simp; omega)
  have j3 : JRec w3 gj gd x none 0 [] false := ⟨hB3', fun k u hu => (by cases hu), fun g hg => (by cases hg)⟩
  have d0 := hB3'.cell (k := 0) rfl
  have d1 := hB3'.cell (k := 1) rfl
  have hx0 : (0 : Int) ≤ (x : Int) := by omega
  clear hB2 hB3 hu3 hb2
  go_wp2_with fail
  (with_reducible refine (stream_any gj x none 0 [] false gd gp gm k cp Y M n _ hx HM.out hn h4 h40 hup h3 j3).mono ?_)
  rintro e w4 ⟨rfl, hb4⟩
  rw [hst]
  have hB4 := hB3'.next hb4 hB3'.lt
  have ho4 := ho3.trans (Only.of_below hb4)
  clear hB3' ho3 h3 j3 d0 d1 hb4
  go_wp2_with fail
  (with_reducible refine (cut_any l _ _ (by simp) hu h65).mono ?_)
  rintro e w5 ⟨v, rfl, hown, hb5⟩
  obtain ⟨A, c, rfl⟩ := own_shape hown
  have hB5 := hB4.next hb5 hB4.lt
  have ho5 := ho4.trans (Only.of_below hb5)
  have hOA := (own_c hown).low ho4.size
  have hlt4 := hB4.lt
  clear hB4 ho4 hb5
  go_wp2_with (with_reducible refine wpList_put (o := ⟨none, .store 43 (.tmp 48) (.tmp 46), _, _, _, _⟩) (by with_unfolding_all rfl) 43 (.tmp 48) (.tmp 46) (by with_unfolding_all rfl) gj 2 (by with_unfolding_all rfl) (.slice A l.length c) (by with_unfolding_all rfl) hB5 [(.slice A l.length c)] (by with_unfolding_all rfl) (by with_unfolding_all exact Try.szSs) (by with_unfolding_all simp) (by with_unfolding_all exact one_cell1 rfl) ?_)
  intro w6 hu6 hB6
  have hB6' : Blk w6 gj 118 [.pointer (some ⟨gd, 0, none⟩), .int .i64 (x : Int), .slice A l.length c, .bool false] := hB6
  have ho6 := ho5.trans (Only.of_upd hu6 (by simp))
  have hne : ∀ g, A = some ⟨g, 0, none⟩ → g ≠ gj := fun g e hg => by
    have := (own_new hown).2 g e
    omega
  have hR6 : RowAt w6 A (l.map Value.string) := (own_new hown).1.only (Only.of_upd (L := [gj]) hu6 (by simp)) (fun g e hg => hne g e (by simpa using hg))
  have hJ6 : JRec w6 gj gd x A c l false := ⟨hB6', hR6, hne⟩
  clear hB5 hown hB6 hu6 ho5 hB6' hR6 hne
  go_wp2
  go_ret
  exact ⟨rfl, ⟨A, c, hJ6, hOA⟩, ho6⟩
end Go.Proofs.Ythgmlopkcgkjlaa

/-
  Contract of the walk over journal.Open, on a disk that holds a journal. Conditions: the disk lies there and is up.
-/
namespace Go.Proofs.Ythgmlopkcgkjlaa
open Go.RowKit Go.Shelf

set_option maxRecDepth 100000 in
set_option maxHeartbeats 1600000 in
theorem open_good (x : Nat) (mk : UInt8) (l : List ByteArray) (gd gp gm k cp : Nat) (Y : List Value) (M : DM) (n : Nat) (w : World) (hx : x ≤ 1) (hmk : (M.page 0).now[0]? = some mk) (hmx : halfOf mk = (x : Int)) (hst : streamR M n x = (⟨(JM.stream l).toArray⟩, 0)) (hu : JM.useR l ≤ 1000000) (h65 : ∀ r ∈ l, r.size < 65536) (hM : M.ok) (hn : M.ps.length = n) (h4 : 4 ≤ n) (h40 : n ≤ 40) (hup : M.up = true) (h : PRep w gd gp gm cp Y M k) :
    Calls Try.prog 37 #[.pointer (some ⟨gd, 0, none⟩)] w fun e w' => ∃ gj A c, e = .returned (.tuple #[.pointer (some ⟨gj, 0, none⟩), .int .i64 0]) ∧ JRec w' gj gd x A c l false ∧ OwnC w.heap.size A l.length c ∧ w.heap.size ≤ gj ∧ Below w.heap.size w w' := by
  have HH := Lib.hid h
  have h4i : (4 : Int) ≤ (n : Int) := by omega
  go_enter Try.func37, Try.ntmps37
  go_wp2_with fail
  (with_reducible refine (len_any gd gp gm k cp Y M _ h).mono ?_)
  rintro e w' ⟨rfl, rfl⟩
  rw [hn]
  clear h
  go_wp2_with fail
  obtain ⟨gj, hgj⟩ : ∃ gj, Hid (w.heap.size = gj) := ⟨_, rfl⟩
  have hB1 := blk_new w 118 [.pointer (some ⟨gd, 0, none⟩), .int .i64 0, .slice none 0 0, .bool false]
  have hb1 := below_new w (.cells #[.pointer (some ⟨gd, 0, none⟩), .int .i64 0, .slice none 0 0, .bool false] 118)
  have h1 := HH.out.next hb1
  obtain ⟨w1, hw1⟩ : ∃ w1, Hid (w.alloc (.cells #[.pointer (some ⟨gd, 0, none⟩), .int .i64 0, .slice none 0 0, .bool false] 118) = w1) := ⟨_, rfl⟩
  have hB1' : Blk w1 gj 118 [.pointer (some ⟨gd, 0, none⟩), .int .i64 0, .slice none 0 0, .bool false] := by rw [← hw1.out, ← hgj.out]; exact hB1
  rw [hw1.out] at hb1 h1
  rw [hw1.out, hgj.out]
  have j1 : JRec w1 gj gd 0 none 0 [] false := ⟨hB1', fun k u hu => (by cases hu), fun g hg => (by cases hg)⟩
  have hle : Hid (w.heap.size ≤ gj) := by
    have : w.heap.size ≤ gj := Nat.le_of_eq hgj.out
    exact this
  have hjd : gj ≠ gd ∧ gj ≠ gp ∧ gj ≠ gm := by
    have e1 := HH.out.d.lt
    have e2 := HH.out.p.lt
    have e3 := HH.out.m.lt
    have := hle.out
    omega
  have HB := Lib.hid hb1
  clear hB1 hB1' hb1
  (with_reducible refine (load_good gj x mk l gd gp gm k cp Y M n _ hx hmk hmx hst hu h65 hM hn h4 h40 hup hjd h1 j1).mono ?_)
  rintro e w2 ⟨rfl, ⟨A, c, j2, hA⟩, ho2⟩
  have hb2 := below_only HB.out ho2 (by simpa using hle.out) HB.out.size
  clear h1 j1 ho2 hjd hmk hmx hst
  go_wp2
  go_ret2
  exact ⟨gj, A, c, rfl, j2, hA.low HB.out.size, hle.out, hb2⟩
end Go.Proofs.Ythgmlopkcgkjlaa

/-
  Contracts of the walks over the journal's load and journal.Open, on a disk whose mark or stream is not a journal's. Conditions: the disk lies there and is up.
-/
namespace Go.Proofs.Ythgmlopkcgkjlaa
open Go.RowKit Go.Shelf

set_option maxRecDepth 100000 in
set_option maxHeartbeats 1600000 in
theorem load_mark (gj : Nat) (mk : UInt8) (gd gp gm k cp : Nat) (Y : List Value) (M : DM) (n : Nat) (w : World) (hmk : (M.page 0).now[0]? = some mk) (hmx : halfOf mk = -1) (hM : M.ok) (hn : M.ps.length = n) (h4 : 4 ≤ n) (h40 : n ≤ 40) (hup : M.up = true) (_hjd : gj ≠ gd ∧ gj ≠ gp ∧ gj ≠ gm) (h : PRep w gd gp gm cp Y M k) (hj : JRec w gj gd 0 none 0 [] false) :
    Calls Try.prog 74 #[.pointer (some ⟨gj, 0, none⟩)] w fun e w' => e = .returned (.int .i64 7) ∧ Only [gj] w w' := by
  have HM := Lib.hid hM
  have hpg := Lib.hid (readUp (i := 0) hup hn (by omega))
  obtain ⟨P0, hP0⟩ : ∃ P0, (M.page 0).now = P0 := ⟨_, rfl⟩
  have hR0 : Hid (M.readS 0 = P0) := by
    have : M.readS 0 = P0 := by rw [← hP0]; exact hpg.out.1
    exact this
  have hE0 : Hid (M.readE 0 = 0) := by
    have : M.readE 0 = 0 := hpg.out.2
    exact this
  have hPl : Hid (P0.length = 128) := by
    have : P0.length = 128 := by rw [← hP0]; exact Pg.now_length (DM.page_ok hM (by omega))
    exact this
  rw [hP0] at hmk
  have E0 : ∀ h : 0 < (⟨P0.toArray⟩ : ByteArray).size, (⟨P0.toArray⟩ : ByteArray)[0]'h = mk := str_at' (by simpa using hmk)
  have HH := Lib.hid h
  have HJ := Lib.hid hj
  have c0 := hj.d.cell (k := 0) rfl
  clear hM hpg hP0 hmk
  go_enter Try.func74, Try.ntmps74
  go_wp2_with fail
  (with_reducible refine (read_any gd gp gm k cp Y M 0 P0 0 _ HM.out hR0.out hE0.out h).mono ?_)
  rintro e w2 ⟨rfl, hb2⟩
  have j2 := HJ.out.next hb2
  have c0' := j2.d.cell (k := 0) rfl
  have c1' := j2.d.cell (k := 1) rfl
  have hp0 : (0 : Nat) < P0.length := by rw [hPl.out]; omega
  clear c0 h hj
  go_wp2_with fail
  (with_reducible refine (mark_index mk _).mono ?_)
  rintro e w2' ⟨rfl, hw22⟩
  subst hw22
  rw [hmx]
  have hB2 := j2.d
  clear E0 hmx c0' c1' j2
  go_wp2_with (with_reducible refine wpList_put (o := ⟨none, .store 3 (.tmp 24) (.tmp 22), _, _, _, _⟩) (by with_unfolding_all rfl) 3 (.tmp 24) (.tmp 22) (by with_unfolding_all rfl) gj 1 (by with_unfolding_all rfl) (.int .i64 (-1)) (by with_unfolding_all rfl) hB2 [(.int .i64 (-1))] (by with_unfolding_all rfl) (by with_unfolding_all exact Try.sz3) (by with_unfolding_all simp) (by with_unfolding_all exact one_cell1 rfl) ?_)
  intro w3 hu3 hB3
  have hB3' : Blk w3 gj 118 [.pointer (some ⟨gd, 0, none⟩), .int .i64 (-1), .slice none 0 0, .bool false] := hB3
  have ho3 : Only [gj] w w3 := (Only.of_below hb2).trans (Only.of_upd hu3 (by simp))
  have d1 := hB3'.cell (k := 1) rfl
  clear hB2 hB3 hu3 hb2 hB3'
  go_wp2
  go_ret
  exact ⟨rfl, ho3⟩
set_option maxRecDepth 100000 in
set_option maxHeartbeats 1600000 in
theorem load_stream (gj : Nat) (x : Nat) (mk : UInt8) (gd gp gm k cp : Nat) (Y : List Value) (M : DM) (n : Nat) (w : World) (hx : x ≤ 1) (hmk : (M.page 0).now[0]? = some mk) (hmx : halfOf mk = (x : Int)) (hst : (streamR M n x).2 = 7) (hM : M.ok) (hn : M.ps.length = n) (h4 : 4 ≤ n) (h40 : n ≤ 40) (hup : M.up = true) (hjd : gj ≠ gd ∧ gj ≠ gp ∧ gj ≠ gm) (h : PRep w gd gp gm cp Y M k) (hj : JRec w gj gd 0 none 0 [] false) :
    Calls Try.prog 74 #[.pointer (some ⟨gj, 0, none⟩)] w fun e w' => e = .returned (.int .i64 7) ∧ Only [gj] w w' := by
  have HM := Lib.hid hM
  have hpg := Lib.hid (readUp (i := 0) hup hn (by omega))
  obtain ⟨P0, hP0⟩ : ∃ P0, (M.page 0).now = P0 := ⟨_, rfl⟩
  have hR0 : Hid (M.readS 0 = P0) := by
    have : M.readS 0 = P0 := by rw [← hP0]; exact hpg.out.1
    exact this
  have hE0 : Hid (M.readE 0 = 0) := by
    have : M.readE 0 = 0 := hpg.out.2
    exact this
  have hPl : Hid (P0.length = 128) := by
    have : P0.length = 128 := by rw [← hP0]; exact Pg.now_length (DM.page_ok hM (by omega))
    exact this
  rw [hP0] at hmk
  have E0 : ∀ h : 0 < (⟨P0.toArray⟩ : ByteArray).size, (⟨P0.toArray⟩ : ByteArray)[0]'h = mk := str_at' (by simpa using hmk)
  have HH := Lib.hid h
  have HJ := Lib.hid hj
  have c0 := hj.d.cell (k := 0) rfl
  clear hM hpg hP0 hmk
  go_enter Try.func74, Try.ntmps74
  go_wp2_with fail
  (with_reducible refine (read_any gd gp gm k cp Y M 0 P0 0 _ HM.out hR0.out hE0.out h).mono ?_)
  rintro e w2 ⟨rfl, hb2⟩
  have j2 := HJ.out.next hb2
  have c0' := j2.d.cell (k := 0) rfl
  have c1' := j2.d.cell (k := 1) rfl
  have hp0 : (0 : Nat) < P0.length := by rw [hPl.out]; omega
  clear c0 h hj
  go_wp2_with fail
  (with_reducible refine (mark_index mk _).mono ?_)
  rintro e w2' ⟨rfl, hw22⟩
  subst hw22
  rw [hmx]
  have hB2 := j2.d
  clear E0 hmx c0' c1' j2
  go_wp2_with (with_reducible refine wpList_put (o := ⟨none, .store 3 (.tmp 24) (.tmp 22), _, _, _, _⟩) (by with_unfolding_all rfl) 3 (.tmp 24) (.tmp 22) (by with_unfolding_all rfl) gj 1 (by with_unfolding_all rfl) (.int .i64 (x : Int)) (by with_unfolding_all rfl) hB2 [(.int .i64 (x : Int))] (by with_unfolding_all rfl) (by with_unfolding_all exact Try.sz3) (by with_unfolding_all simp) (by with_unfolding_all exact one_cell1 rfl) ?_)
  intro w3 hu3 hB3
  have hB3' : Blk w3 gj 118 [.pointer (some ⟨gd, 0, none⟩), .int .i64 (x : Int), .slice none 0 0, .bool false] := hB3
  have ho3 : Only [gj] w w3 := (Only.of_below hb2).trans (Only.of_upd hu3 (by simp))
  have h3 := HH.out.only ho3 (by simp; omega) (by simp; omega) (by simp; omega)
  have j3 : JRec w3 gj gd x none 0 [] false := ⟨hB3', fun k u hu => (by cases hu), fun g hg => (by cases hg)⟩
  have d0 := hB3'.cell (k := 0) rfl
  have d1 := hB3'.cell (k := 1) rfl
  have hx0 : (0 : Int) ≤ (x : Int) := by omega
  clear hB2 hB3 hu3 hb2
  go_wp2_with fail
  (with_reducible refine (stream_any gj x none 0 [] false gd gp gm k cp Y M n _ hx HM.out hn h4 h40 hup h3 j3).mono ?_)
  rintro e w4 ⟨rfl, hb4⟩
  rw [hst]
  have ho4 := ho3.trans (Only.of_below hb4)
  clear hB3' ho3 h3 j3 d0 d1 hb4
  go_wp2
  go_ret
  exact ⟨rfl, ho4⟩
set_option maxRecDepth 100000 in
set_option maxHeartbeats 1600000 in
theorem open_mark (mk : UInt8) (gd gp gm k cp : Nat) (Y : List Value) (M : DM) (n : Nat) (w : World) (hmk : (M.page 0).now[0]? = some mk) (hmx : halfOf mk = -1) (hM : M.ok) (hn : M.ps.length = n) (h4 : 4 ≤ n) (h40 : n ≤ 40) (hup : M.up = true) (h : PRep w gd gp gm cp Y M k) :
    Calls Try.prog 37 #[.pointer (some ⟨gd, 0, none⟩)] w fun e w' => e = .returned (.tuple #[.pointer none, .int .i64 7]) ∧ Below w.heap.size w w' := by
  have HH := Lib.hid h
  have h4i : (4 : Int) ≤ (n : Int) := by omega
  go_enter Try.func37, Try.ntmps37
  go_wp2_with fail
  (with_reducible refine (len_any gd gp gm k cp Y M _ h).mono ?_)
  rintro e w' ⟨rfl, rfl⟩
  rw [hn]
  clear h
  go_wp2_with fail
  obtain ⟨gj, hgj⟩ : ∃ gj, Hid (w.heap.size = gj) := ⟨_, rfl⟩
  have hB1 := blk_new w 118 [.pointer (some ⟨gd, 0, none⟩), .int .i64 0, .slice none 0 0, .bool false]
  have hb1 := below_new w (.cells #[.pointer (some ⟨gd, 0, none⟩), .int .i64 0, .slice none 0 0, .bool false] 118)
  have h1 := HH.out.next hb1
  obtain ⟨w1, hw1⟩ : ∃ w1, Hid (w.alloc (.cells #[.pointer (some ⟨gd, 0, none⟩), .int .i64 0, .slice none 0 0, .bool false] 118) = w1) := ⟨_, rfl⟩
  have hB1' : Blk w1 gj 118 [.pointer (some ⟨gd, 0, none⟩), .int .i64 0, .slice none 0 0, .bool false] := by rw [← hw1.out, ← hgj.out]; exact hB1
  rw [hw1.out] at hb1 h1
  rw [hw1.out, hgj.out]
  have j1 : JRec w1 gj gd 0 none 0 [] false := ⟨hB1', fun k u hu => (by cases hu), fun g hg => (by cases hg)⟩
  have hle : Hid (w.heap.size ≤ gj) := by
    have : w.heap.size ≤ gj := Nat.le_of_eq hgj.out
    exact this
  have hjd : gj ≠ gd ∧ gj ≠ gp ∧ gj ≠ gm := by
    have e1 := HH.out.d.lt
    have e2 := HH.out.p.lt
    have e3 := HH.out.m.lt
    have := hle.out
    omega
  have HB := Lib.hid hb1
  clear hB1 hB1' hb1
  (with_reducible refine (load_mark gj mk gd gp gm k cp Y M n _ hmk hmx hM hn h4 h40 hup hjd h1 j1).mono ?_)
  rintro e w2 ⟨rfl, ho2⟩
  have hb2 := below_only HB.out ho2 (by simpa using hle.out) HB.out.size
  clear h1 j1 ho2 hjd
  go_wp2
  go_ret2
  exact ⟨rfl, hb2⟩
set_option maxRecDepth 100000 in
set_option maxHeartbeats 1600000 in
theorem open_stream (x : Nat) (mk : UInt8) (gd gp gm k cp : Nat) (Y : List Value) (M : DM) (n : Nat) (w : World) (hx : x ≤ 1) (hmk : (M.page 0).now[0]? = some mk) (hmx : halfOf mk = (x : Int)) (hst : (streamR M n x).2 = 7) (hM : M.ok) (hn : M.ps.length = n) (h4 : 4 ≤ n) (h40 : n ≤ 40) (hup : M.up = true) (h : PRep w gd gp gm cp Y M k) :
    Calls Try.prog 37 #[.pointer (some ⟨gd, 0, none⟩)] w fun e w' => e = .returned (.tuple #[.pointer none, .int .i64 7]) ∧ Below w.heap.size w w' := by
  have HH := Lib.hid h
  have h4i : (4 : Int) ≤ (n : Int) := by omega
  go_enter Try.func37, Try.ntmps37
  go_wp2_with fail
  (with_reducible refine (len_any gd gp gm k cp Y M _ h).mono ?_)
  rintro e w' ⟨rfl, rfl⟩
  rw [hn]
  clear h
  go_wp2_with fail
  obtain ⟨gj, hgj⟩ : ∃ gj, Hid (w.heap.size = gj) := ⟨_, rfl⟩
  have hB1 := blk_new w 118 [.pointer (some ⟨gd, 0, none⟩), .int .i64 0, .slice none 0 0, .bool false]
  have hb1 := below_new w (.cells #[.pointer (some ⟨gd, 0, none⟩), .int .i64 0, .slice none 0 0, .bool false] 118)
  have h1 := HH.out.next hb1
  obtain ⟨w1, hw1⟩ : ∃ w1, Hid (w.alloc (.cells #[.pointer (some ⟨gd, 0, none⟩), .int .i64 0, .slice none 0 0, .bool false] 118) = w1) := ⟨_, rfl⟩
  have hB1' : Blk w1 gj 118 [.pointer (some ⟨gd, 0, none⟩), .int .i64 0, .slice none 0 0, .bool false] := by rw [← hw1.out, ← hgj.out]; exact hB1
  rw [hw1.out] at hb1 h1
  rw [hw1.out, hgj.out]
  have j1 : JRec w1 gj gd 0 none 0 [] false := ⟨hB1', fun k u hu => (by cases hu), fun g hg => (by cases hg)⟩
  have hle : Hid (w.heap.size ≤ gj) := by
    have : w.heap.size ≤ gj := Nat.le_of_eq hgj.out
    exact this
  have hjd : gj ≠ gd ∧ gj ≠ gp ∧ gj ≠ gm := by
    have e1 := HH.out.d.lt
    have e2 := HH.out.p.lt
    have e3 := HH.out.m.lt
    have := hle.out
    omega
  have HB := Lib.hid hb1
  clear hB1 hB1' hb1
  (with_reducible refine (load_stream gj x mk gd gp gm k cp Y M n _ hx hmk hmx hst hM hn h4 h40 hup hjd h1 j1).mono ?_)
  rintro e w2 ⟨rfl, ho2⟩
  have hb2 := below_only HB.out ho2 (by simpa using hle.out) HB.out.size
  clear h1 j1 ho2 hjd
  go_wp2
  go_ret2
  exact ⟨rfl, hb2⟩
end Go.Proofs.Ythgmlopkcgkjlaa

/-
  A head or a stream with one byte changed is not read. Conditions: none.
-/
namespace Go.Proofs.Ythgmlopkcgkjlaa
open Go.RowKit Go.Shelf

theorem headB_pair (z s i : Nat) (hi : i < 4) : (JM.headB z s)[i]? = (JM.headB z s)[i + 4]? := by
  rw [headB_list]
  rcases (by omega : i = 0 ∨ i = 1 ∨ i = 2 ∨ i = 3) with rfl | rfl | rfl | rfl <;> rfl
theorem sizeN_set (H : List UInt8) (i : Nat) (b : UInt8) : ∀ j, j ≤ i → JM.sizeN (H.set i b) j = JM.sizeN H j
  | 0, _ => rfl
  | j + 1, h => by
    unfold JM.sizeN
    rw [sizeN_set H i b j (by omega), List.getD_eq_getElem?_getD, List.getD_eq_getElem?_getD, List.getElem?_set_ne (by omega)]
theorem streamR_small {M : DM} {n half : Nat} (h : headAt M half ≠ JM.headB (JM.sizeN (headAt M half) 4) (JM.sumF 0 (rdTo M (2 + half * hpOf n) (JM.sizeN (headAt M half) 4) ((JM.sizeN (headAt M half) 4 + 127) / 128)))) : (streamR M n half).2 = 7 := by
  unfold streamR
  split
  · rfl
  · first | rfl | rw [if_neg h]
/-- One byte of the head changed: the stream is not read. -/
theorem streamR_head {M : DM} {n half i : Nat} {b : UInt8} {S : List UInt8} (hS : S.length ≤ capOf n) (hn : n ≤ 40) (hi : i < 16) (hb : (JM.headB S.length (JM.sumF 0 S))[i]? ≠ some b)
    (hh : headAt M half = (JM.headB S.length (JM.sumF 0 S)).set i b) (hl : LaidS M (2 + half * hpOf n) S) : (streamR M n half).2 = 7 := by
  have hc : capOf n ≤ 2432 := by unfold capOf; omega
  have hlen : (JM.headB S.length (JM.sumF 0 S)).length = 16 := JM.stage2_length _ _ 8
  refine streamR_small fun e => ?_
  have hset : ((JM.headB S.length (JM.sumF 0 S)).set i b)[i]? = some b := List.getElem?_set_self (by omega)
  by_cases h4 : i < 4
  · rw [hh] at e
    have e1 := headB_pair (JM.sizeN ((JM.headB S.length (JM.sumF 0 S)).set i b) 4) (JM.sumF 0 (rdTo M (2 + half * hpOf n) (JM.sizeN ((JM.headB S.length (JM.sumF 0 S)).set i b) 4) ((JM.sizeN ((JM.headB S.length (JM.sumF 0 S)).set i b) 4 + 127) / 128))) i h4
    rw [← e, hset, List.getElem?_set_ne (by omega), ← headB_pair _ _ i h4] at e1
    exact hb e1.symm
  · by_cases h8 : i < 8
    · rw [hh] at e
      have e1 := headB_pair (JM.sizeN ((JM.headB S.length (JM.sumF 0 S)).set i b) 4) (JM.sumF 0 (rdTo M (2 + half * hpOf n) (JM.sizeN ((JM.headB S.length (JM.sumF 0 S)).set i b) 4) ((JM.sizeN ((JM.headB S.length (JM.sumF 0 S)).set i b) 4 + 127) / 128))) (i - 4) (by omega)
      rw [← e, show i - 4 + 4 = i by omega, hset, List.getElem?_set_ne (by omega), headB_pair _ _ (i - 4) (by omega), show i - 4 + 4 = i by omega] at e1
      exact hb e1
    · have hz : JM.sizeN (headAt M half) 4 = S.length := by rw [hh, sizeN_set _ _ _ 4 (by omega), size_headB _ _ (by omega)]
      rw [hz, rdTo_stream hl, List.take_of_length_le (by omega)] at e
      rw [hh] at e
      rw [e] at hset
      exact hb hset
theorem bytes_eq (s t : Nat) (hs : s < 18446744073709551616) (ht : t < 18446744073709551616) (f0 : s / 2 ^ (8 * 0) % 256 = t / 2 ^ (8 * 0) % 256) (f1 : s / 2 ^ (8 * 1) % 256 = t / 2 ^ (8 * 1) % 256) (f2 : s / 2 ^ (8 * 2) % 256 = t / 2 ^ (8 * 2) % 256) (f3 : s / 2 ^ (8 * 3) % 256 = t / 2 ^ (8 * 3) % 256)
    (f4 : s / 2 ^ (8 * 4) % 256 = t / 2 ^ (8 * 4) % 256) (f5 : s / 2 ^ (8 * 5) % 256 = t / 2 ^ (8 * 5) % 256) (f6 : s / 2 ^ (8 * 6) % 256 = t / 2 ^ (8 * 6) % 256) (f7 : s / 2 ^ (8 * 7) % 256 = t / 2 ^ (8 * 7) % 256) : s = t := by
  simp only [Nat.reduceMul, Nat.reducePow, Nat.div_one] at f0 f1 f2 f3 f4 f5 f6 f7
  omega
theorem headB_sum {z s t : Nat} (e : JM.headB z s = JM.headB z t) (hs : s < JM.W) (ht : t < JM.W) : s = t := by
  rw [headB_list, headB_list] at e
  simp only [List.cons.injEq, and_true, true_and] at e
  obtain ⟨e0, e1, e2, e3, e4, e5, e6, e7⟩ := e
  have f0 := congrArg UInt8.toNat e0
  have f1 := congrArg UInt8.toNat e1
  have f2 := congrArg UInt8.toNat e2
  have f3 := congrArg UInt8.toNat e3
  have f4 := congrArg UInt8.toNat e4
  have f5 := congrArg UInt8.toNat e5
  have f6 := congrArg UInt8.toNat e6
  have f7 := congrArg UInt8.toNat e7
  rw [byteAt_toNat, byteAt_toNat] at f0 f1 f2 f3 f4 f5 f6 f7
  have hs' : s < 18446744073709551616 := hs
  have ht' : t < 18446744073709551616 := ht
  exact bytes_eq s t hs' ht' f0 f1 f2 f3 f4 f5 f6 f7
/-- One byte of the stream changed: it is not read. -/
theorem streamR_body {M : DM} {n half i : Nat} {b : UInt8} {S : List UInt8} (hS : S.length ≤ capOf n) (hn : n ≤ 40) (hi : i < S.length) (hb : S[i]? ≠ some b)
    (hh : headAt M half = JM.headB S.length (JM.sumF 0 S)) (hl : LaidS M (2 + half * hpOf n) (S.set i b)) : (streamR M n half).2 = 7 := by
  have hc : capOf n ≤ 2432 := by unfold capOf; omega
  have hz : JM.sizeN (headAt M half) 4 = (S.set i b).length := by rw [hh, size_headB _ _ (by omega), List.length_set]
  refine streamR_small fun e => ?_
  rw [hz, rdTo_stream hl, List.take_of_length_le (by omega), hh, List.length_set] at e
  have hs := headB_sum e (JM.sumF_lt _ _ JM.W_pos) (JM.sumF_lt _ _ JM.W_pos)
  exact hb (JM.sumF_set hi hs.symm)
end Go.Proofs.Ythgmlopkcgkjlaa

/-
  Contracts of the walks over the journal's load and journal.Open, on a disk that is down or too small. Conditions: the disk lies there.
-/
namespace Go.Proofs.Ythgmlopkcgkjlaa
open Go.RowKit Go.Shelf

theorem open_few (gd gp gm k cp : Nat) (Y : List Value) (M : DM) (n : Nat) (w : World) (hn : M.ps.length = n) (h4 : n < 4) (h : PRep w gd gp gm cp Y M k) :
    Calls Try.prog 37 #[.pointer (some ⟨gd, 0, none⟩)] w fun e w' => e = .returned (.tuple #[.pointer none, .int .i64 1]) ∧ w = w' := by
  have h4i : (n : Int) < 4 := by omega
  go_enter Try.func37, Try.ntmps37
  go_wp2_with fail
  (with_reducible refine (len_any gd gp gm k cp Y M _ h).mono ?_)
  rintro e w' ⟨rfl, rfl⟩
  rw [hn]
  clear h
  go_wp2
  go_ret2
  exact ⟨rfl, rfl⟩
theorem readDown {M : DM} {i : Int} (hup : M.up = false) : M.readS i = [] ∧ M.readE i = 13 := by
  unfold DM.readS DM.readE
  rw [hup]
  exact ⟨rfl, rfl⟩
set_option maxRecDepth 100000 in
set_option maxHeartbeats 800000 in
theorem load_down (gj gd gp gm k cp : Nat) (Y : List Value) (M : DM) (w : World) (hM : M.ok) (hup : M.up = false) (h : PRep w gd gp gm cp Y M k) (hj : JRec w gj gd 0 none 0 [] false) :
    Calls Try.prog 74 #[.pointer (some ⟨gj, 0, none⟩)] w fun e w' => e = .returned (.int .i64 13) ∧ Only [gj] w w' := by
  have HM := Lib.hid hM
  have hR0 : Hid (M.readS 0 = []) := by
    have : M.readS 0 = [] := (readDown hup).1
    exact this
  have hE0 : Hid (M.readE 0 = 13) := by
    have : M.readE 0 = 13 := (readDown hup).2
    exact this
  have c0 := hj.d.cell (k := 0) rfl
  clear hM
  go_enter Try.func74, Try.ntmps74
  go_wp2_with fail
  (with_reducible refine (read_any gd gp gm k cp Y M 0 [] 13 _ HM.out hR0.out hE0.out h).mono ?_)
  rintro e w2 ⟨rfl, hb2⟩
  have ho2 : Only [gj] w w2 := Only.of_below hb2
  clear c0 h hj hb2
  go_wp2
  go_ret
  exact ⟨rfl, ho2⟩
set_option maxRecDepth 100000 in
set_option maxHeartbeats 1600000 in
theorem open_down (gd gp gm k cp : Nat) (Y : List Value) (M : DM) (n : Nat) (w : World) (hM : M.ok) (hn : M.ps.length = n) (h4 : 4 ≤ n) (h40 : n ≤ 40) (hup : M.up = false) (h : PRep w gd gp gm cp Y M k) :
    Calls Try.prog 37 #[.pointer (some ⟨gd, 0, none⟩)] w fun e w' => e = .returned (.tuple #[.pointer none, .int .i64 13]) ∧ Below w.heap.size w w' := by
  have HH := Lib.hid h
  have h4i : (4 : Int) ≤ (n : Int) := by omega
  go_enter Try.func37, Try.ntmps37
  go_wp2_with fail
  (with_reducible refine (len_any gd gp gm k cp Y M _ h).mono ?_)
  rintro e w' ⟨rfl, rfl⟩
  rw [hn]
  clear h
  go_wp2_with fail
  obtain ⟨gj, hgj⟩ : ∃ gj, Hid (w.heap.size = gj) := ⟨_, rfl⟩
  have hB1 := blk_new w 118 [.pointer (some ⟨gd, 0, none⟩), .int .i64 0, .slice none 0 0, .bool false]
  have hb1 := below_new w (.cells #[.pointer (some ⟨gd, 0, none⟩), .int .i64 0, .slice none 0 0, .bool false] 118)
  have h1 := HH.out.next hb1
  obtain ⟨w1, hw1⟩ : ∃ w1, Hid (w.alloc (.cells #[.pointer (some ⟨gd, 0, none⟩), .int .i64 0, .slice none 0 0, .bool false] 118) = w1) := ⟨_, rfl⟩
  have hB1' : Blk w1 gj 118 [.pointer (some ⟨gd, 0, none⟩), .int .i64 0, .slice none 0 0, .bool false] := by rw [← hw1.out, ← hgj.out]; exact hB1
  rw [hw1.out] at hb1 h1
  rw [hw1.out, hgj.out]
  have j1 : JRec w1 gj gd 0 none 0 [] false := ⟨hB1', fun k u hu => (by cases hu), fun g hg => (by cases hg)⟩
  have hle : Hid (w.heap.size ≤ gj) := by
    have : w.heap.size ≤ gj := Nat.le_of_eq hgj.out
    exact this
  have HB := Lib.hid hb1
  clear hB1 hB1' hb1
  (with_reducible refine (load_down gj gd gp gm k cp Y M _ hM hup h1 j1).mono ?_)
  rintro e w2 ⟨rfl, ho2⟩
  have hb2 := below_only HB.out ho2 (by simpa using hle.out) HB.out.size
  clear h1 j1 ho2
  go_wp2
  go_ret2
  exact ⟨rfl, hb2⟩
end Go.Proofs.Ythgmlopkcgkjlaa
