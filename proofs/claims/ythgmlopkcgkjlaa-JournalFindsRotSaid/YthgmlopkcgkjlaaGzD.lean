/-
  Contracts of the functions that the statement calls, part 30 of 37 (merged texts: Jk5). Conditions: as the head of each part says.
-/
import Derived.Test.YthgmlopkcgkjlaaGzB
import Derived.OwnWalkIn
import Derived.TacticsInMore
import Derived.LoopNIn
import Derived.LoopIn
import Derived.Shelf.RegionOpen
import Derived.Room.AppendFits

/-
  Contract of the walk over the iterator of journal.parts: it visits the pieces of the records' stream. Conditions: the records lie there.
-/
namespace Go.Proofs.Ythgmlopkcgkjlaa
open Go.RowKit Go.Shelf

attribute [local go_sem] Oper.semAt_some
def encP (x : List UInt8) : Array Value := #[.string ⟨x.toArray⟩]
def textLen : Value → Nat
  | .string s => s.size
  | _ => 0
theorem own_zero {w : World} {base n cap g : Nat} {E : TypeId} {xs : List Value} (h : w.ownsRow base E 1 (.slice (some ⟨g, 0, none⟩) n cap) n xs) : w.ownsRow base E 1 (.slice (some ⟨g, 0, none⟩) 0 cap) 0 [] := by
  rcases h.2 with ⟨h1, _⟩ | ⟨g', cap', cur, h1, h2, h3, _, h5, h6, _⟩
  · cases h1
  · cases h1
    exact ⟨rfl, .inr ⟨g, cap, cur, rfl, h2, h3, Nat.zero_le _, h5, h6, by simp⟩⟩
theorem own_holds {w : World} {base n cap g : Nat} {E : TypeId} {l : List UInt8} (h : w.ownsRow base E 1 (.slice (some ⟨g, 0, none⟩) n cap) n (l.map B8)) : Holds w (some ⟨g, 0, none⟩) (l.map B8) := fun k u hu => by
  have hk : k < n * 1 := by rw [← h.1]; exact (List.getElem?_eq_some_iff.1 hu).1
  exact ⟨_, rfl, by rw [addr_mid, Nat.zero_add]; exact (h.cellAt k hk).trans hu⟩
/-- The records' own blocks lie as they lay. -/
structure Kept (B l : Nat) (L : List Nat) (W1 w : World) : Prop where
  size : B ≤ w.heap.size
  block : ∀ k, k < B → k ∉ l :: L → w.heap[k]? = W1.heap[k]?
theorem Kept.below {B l : Nat} {L : List Nat} {W1 w w' : World} (h : Kept B l L W1 w) (hb : Below B w w') : Kept B l L W1 w' :=
  ⟨Nat.le_trans h.size hb.size, fun k hk hn => (hb.block k hk).trans (h.block k hk hn)⟩
theorem Kept.only {B l : Nat} {L : List Nat} {W1 w w' : World} (h : Kept B l L W1 w) (ho : Only (l :: L) w w') : Kept B l L W1 w' :=
  ⟨Nat.le_trans h.size ho.size, fun k hk hn => (ho.block k (Nat.lt_of_lt_of_le hk h.size) hn).trans (h.block k hk hn)⟩
theorem Kept.blk {B l : Nat} {L : List Nat} {W1 w : World} {g : Nat} {t : TypeId} {xs : List Value} (h : Kept B l L W1 w) (hb : Blk W1 g t xs) (hg : g < B) (hn : g ∉ l :: L) : Blk w g t xs := by unfold Blk; rw [h.block g hg hn]; exact hb
theorem Kept.row {B l : Nat} {L : List Nat} {W1 w : World} {A : Option Addr} {xs : List Value} (h : Kept B l L W1 w) (hr : RowAt W1 A xs) (hA : ∀ g, A = some ⟨g, 0, none⟩ → g ∉ l :: L) (hB : ∀ k, k < W1.heap.size → k < B) : RowAt w A xs := fun k u hu => by
  obtain ⟨g, e, hc⟩ := hr k u hu
  exact ⟨g, e, (World.cell?_of_block (a := ⟨g, k, none⟩) (h.block g (hB g (World.block_lt_of_cell? W1 _ hc)) (hA g e))).trans hc⟩
theorem str_app (a b : List UInt8) : (⟨a.toArray⟩ : ByteArray) ++ (⟨b.toArray⟩ : ByteArray) = ⟨(a ++ b).toArray⟩ := by
  apply str_ext
  simp
theorem roundDone_one {α : Type} {F : Fence} {n l : Nat} {P : Program} {fn : Nat} {tmps : Array Value} {assign body : Code} {L : List Nat} {J Jx : List α → World → Prop} {s : List α} {W : World} (h : RoundIn F n P l fn tmps assign body W (RoundDone l L J Jx s W)) :
    RoundIn F n P l fn tmps assign body W fun e W' => ∃ b : Bool, e = .returned (.bool b) ∧ ((b = true ∧ J s W') ∨ (b = false ∧ Jx s W')) ∧ Only (l :: L) W W' := by
  refine h.mono ?_
  rintro e W' (⟨rfl, h1, h2⟩ | ⟨rfl, h1, h2⟩)
  · exact ⟨true, rfl, .inl ⟨rfl, h1⟩, h2⟩
  · exact ⟨false, rfl, .inr ⟨rfl, h1⟩, h2⟩
/-- 'append' of a text's bytes to a row in which there is room, inside a fence. -/
theorem wpListIn_text {F : Fence} {n : Nat} {P : Program} {w : World} {ops : Array Oper} {rest : List Oper} {o : Oper} {a : Act} {Q : Exit → Act → World → Prop} (hgd : o.guard = none) (sl x : Operand) (t u : TypeId)
    (ho : o.op = .call { callee := .builtin .append, args := #[sl, x], argTypes := #[t, u] }) (p : Option Addr) (k cap : Nat) (s : ByteArray) (hs : a.eval sl = .slice p k cap) (hx : a.eval x = .string s)
    (v : Value) (w' : World) (hr : (Builtin.append_ #[t, u] o.type #[.slice p k cap, .string s]).run P w = .ok v w') (h : wpListIn F n P ops Q rest (a.put o.dst v) w') : wpListIn F n P ops Q (o :: rest) a w := by
  refine wpListIn_plain hgd fun K hK => ?_
  unfold Oper.wpIn
  refine ⟨fun f hf => ?_, ?_⟩
  · simp [Oper.about, ho, resolve, Target.leads] at hf
  · have hne : ∀ c, o.op ≠ .defer c := fun c h => by rw [ho] at h; cases h
    rw [Oper.semAt_eq _ _ _ hne]
    unfold execOp
    simp only [ho, resolve, invoke, builtin, Sem.run_bind, Sem.run_pure, Result.andThen_ok, List.map_toArray, List.map_cons, List.map_nil, hs, hx, hr]
    exact hK _ _ h
theorem strCells_rows (l : List UInt8) : Lib.strCells (⟨l.toArray⟩ : ByteArray) = l.map B8 := by
  unfold Lib.strCells
  first | rfl | simp [B8]
theorem wrap64_small {x : Int} (h1 : 0 ≤ x) (h2 : x ≤ 1000001) : wrap64 x = x := by
  unfold wrap64
  omega
def PtRel (S : List UInt8) (recs : List ByteArray) (J : List (List UInt8) → World → Prop) (B l : Nat) (L : List Nat) (W1 : World) (pgv iv : Value) (wr : World) : Prop :=
  ∃ (j m : Nat) (pg : List UInt8), j ≤ recs.length ∧ iv = .int .i64 (j : Int) ∧ pgv = .slice (some ⟨B, 0, none⟩) pg.length 128 ∧ wr.ownsRow B 5 1 (.slice (some ⟨B, 0, none⟩) pg.length 128) pg.length (pg.map B8) ∧ pg.length < 128 ∧ 128 * m ≤ JM.useR (recs.take j) ∧ pg = (S.take (JM.useR (recs.take j))).drop (128 * m) ∧ J (JM.rows S m) wr ∧ Kept B l L W1 wr
def PiRel (S : List UInt8) (p : Nat) (J : List (List UInt8) → World → Prop) (B l : Nat) (L : List Nat) (W1 : World) (pgv rv : Value) (wr : World) : Prop :=
  ∃ (m : Nat) (pg rest : List UInt8), rv = .string ⟨rest.toArray⟩ ∧ pgv = .slice (some ⟨B, 0, none⟩) pg.length 128 ∧ wr.ownsRow B 5 1 (.slice (some ⟨B, 0, none⟩) pg.length 128) pg.length (pg.map B8) ∧ pg.length < 128 ∧ 128 * m ≤ p ∧ pg ++ rest = (S.take p).drop (128 * m) ∧ J (JM.rows S m) wr ∧ Kept B l L W1 wr
set_option maxRecDepth 100000 in
set_option maxHeartbeats 8000000 in
theorem parts1_in (n l Br c : Nat) (A : Option Addr) (recs : List ByteArray) (L : List Nat) (W1 : World) (hu : JM.useR recs ≤ 1000000) (h65 : ∀ r ∈ recs, r.size < 65536) (hBr : Blk W1 Br 43 [.slice A recs.length c]) (hR : RowAt W1 A (recs.map Value.string))
    (hBL : Br ∉ l :: L) (hAL : ∀ g, A = some ⟨g, 0, none⟩ → g ∉ l :: L) (hLL : ∀ k ∈ l :: L, k < W1.heap.size) :
    Visits n Try.prog 134 #[.pointer (some ⟨Br, 0, none⟩)] encP (JM.rows (JM.stream recs) (JM.pcs (JM.stream recs))) L l W1 := by
  intro J Jx hJ hJx hY h0
  obtain ⟨i0, hi, hz0, hz1, hz2⟩ := info_parts Try.infoB
  obtain ⟨B, hB⟩ : ∃ B, W1.heap.size = B := ⟨_, rfl⟩
  have J1' : J [] W1 := h0
  rw [hB] at hJ hJx hY hLL
  have HJ := Lib.hid hJ
  have HJx := Lib.hid hJx
  have HY := Lib.hid hY
  have HLL := Lib.hid hLL
  clear hJ hJx hY hLL
  have HU := Lib.hid hu
  have H65 := Lib.hid h65
  refine callsIn_of_wp Try.func134 rfl trivial ?_ rfl
  simp only [Try.ntmps134, List.size_toArray, List.length_cons, List.length_nil, Nat.reduceAdd, Nat.reduceSub, Array.replicate_succ, Array.replicate_zero, List.push_toArray, List.append_toArray, List.nil_append, List.cons_append]
  gi_wp2_with (gi_at_make; refine wpListIn_make_own _ rfl _ _ 110 rfl W1.heap.size 5 i0 _ 1 Try.underlying110 hi hz0 hz1 _ _ 128 128 rfl rfl rfl ?b2 ?b3 (Nat.le_refl _) ?_)
  case b2 => rw [hz2]; omega
  case b3 => unfold maxLen; omega
  intro w1 hown1 hgrow1
  have hb1 : Below B W1 w1 := by rw [← hB]; exact (Below.refl _ _).grown hgrow1 (Nat.le_refl _) (fun k hk => by cases hk)
  have K1 : Kept B l L W1 w1 := ⟨by have := hb1.size; omega, fun k hk _ => hb1.block k hk⟩
  have J1 : J [] w1 := HJ.out [] W1 w1 h0 (by omega) hb1
  have hBrB : Br < B := by rw [← hB]; exact hBr.lt
  have c1 := (K1.blk hBr hBrB hBL).cell (k := 0) rfl
  obtain ⟨nr, hnr⟩ : ∃ nr, Hid (recs.length = nr) := ⟨_, rfl⟩
  rw [hnr.out] at c1
  clear hgrow1 hb1
  gi_wp2
  gi_loopw [3, 11] (fun pgv iv wr => PtRel (JM.stream recs) recs J B l L W1 pgv iv wr) (fun _ iv _ => nr - natOf iv)
  case atStart => exact ⟨0, 0, [], Nat.zero_le _, rfl, rfl, hown1, by simp, by simp, by simp [JM.useR], J1, K1⟩
  case round =>
    obtain ⟨j, m, pg, hj, rfl, rfl, hown, hpl, hm, hpg, hJm, hK⟩ := hrel
    rw [hnr.out] at hj
    by_cases hjn : j < nr
    · have hji : (j : Int) < (nr : Int) := by omega
      obtain ⟨r, hr⟩ : ∃ r, recs[j]? = some r := ⟨_, List.getElem?_eq_getElem (by rw [hnr.out]; exact hjn)⟩
      have hrs : r.size < 65536 := H65.out r (List.mem_of_getElem? hr)
      obtain ⟨g, rfl, hc⟩ := (hK.row hR hAL (fun k hk => by rw [← hB]; exact hk)).map j r hr
      have hw1 : ((UInt8.ofNat (r.size / 256)).toNat : Int) = (r.size : Int) / 256 := by rw [UInt8.toNat_ofNat']; omega
      have hw2 : ((UInt8.ofNat r.size).toNat : Int) = (r.size : Int) % 256 := by rw [UInt8.toNat_ofNat']; omega
      have hcv : (convert 110 9 (.slice (some ⟨wr.heap.size, 0, none⟩) 2 2)).run Try.prog (wr.alloc (.cells #[.int .u8 ((r.size : Int) / 256), .int .u8 ((r.size : Int) % 256)] 5)) = .ok (.string ⟨[UInt8.ofNat (r.size / 256), UInt8.ofNat r.size].toArray⟩) (wr.alloc (.cells #[.int .u8 ((r.size : Int) / 256), .int .u8 ((r.size : Int) % 256)] 5)) := by
        have h := run_conv_at (wr.alloc (.cells #[B8 (UInt8.ofNat (r.size / 256)), B8 (UInt8.ofNat r.size)] 5)) (some ⟨wr.heap.size, 0, none⟩) 2 2 [UInt8.ofNat (r.size / 256), UInt8.ofNat r.size] rfl (fun k u hu => ⟨_, rfl, by rw [addr_mid, Nat.zero_add]; exact (blk_new wr 5 [B8 (UInt8.ofNat (r.size / 256)), B8 (UInt8.ofNat r.size)]).cell hu⟩)
        unfold B8 at h
        rw [hw1, hw2] at h
        exact h
      have hrec : (⟨[UInt8.ofNat (r.size / 256), UInt8.ofNat r.size].toArray⟩ : ByteArray) ++ r = ⟨(JM.recB r).toArray⟩ := by
        apply str_ext
        simp [JM.recB]
      obtain ⟨p, hp⟩ : ∃ p, JM.useR (recs.take (j + 1)) = p := ⟨_, rfl⟩
      have hpS : p ≤ (JM.stream recs).length := by rw [← hp, JM.stream_length]; exact JM.useR_take _ _
      have hm1 : 128 * m ≤ p := by
        have := JM.useR_next recs j r hr
        omega
      have hpr := JM.use_next hr hm hpg
      rw [hp] at hpr
      have hpl9 : (JM.stream recs).length ≤ 1000000 := by rw [JM.stream_length]; exact HU.out
      have hb2 := below_new wr (.cells #[.int .u8 ((r.size : Int) / 256), .int .u8 ((r.size : Int) % 256)] 5)
      have hb2' := hb2.mono hK.size
      have hK2 := hK.below hb2'
      have hJ2 := HJ.out _ _ _ hJm hK.size hb2'
      have hown2 := own_only hown (Only.of_below (L := []) hb2) (by simp)
      clear hm hpg hJm hb2 hb2' hw1 hw2
      gi_wp2
      obtain ⟨w2, hw2⟩ : ∃ w2, Hid (wr.alloc (.cells #[.int .u8 ((r.size : Int) / 256), .int .u8 ((r.size : Int) % 256)] 5) = w2) := ⟨_, rfl⟩
      rw [hw2.out] at hK2 hJ2 hown2
      rw [hw2.out]
      have HR := Lib.hid hr
      clear hK hown hc hcv hrec c1 hw2 hr hrs
      gi_loopw [3, 6] (fun pgv rv wr => PiRel (JM.stream recs) p J B l L W1 pgv rv wr) (fun _ rv _ => textLen rv)
      case atStart => exact ⟨m, pg, JM.recB r, rfl, rfl, hown2, hpl, hm1, hpr, hJ2, hK2⟩
      case round =>
        clear hK2 hJ2 hown2 hpl hm1 hpr
        obtain ⟨m, pg, rest, rfl, rfl, hown, hpl, hm, hpr, hJm, hK⟩ := hrel
        have hplr : pg.length + rest.length = p - 128 * m := by
          have := congrArg List.length hpr
          rw [List.length_append, JM.drop_take_len _ _ _ hpS] at this
          exact this
        have hrsz : (⟨rest.toArray⟩ : ByteArray).size = rest.length := str_size rest
        by_cases hge : 128 ≤ pg.length + rest.length
        · obtain ⟨q, hq⟩ : ∃ q, 128 - pg.length = q := ⟨_, rfl⟩
          have hqi : (128 : Int) - (pg.length : Int) = (q : Int) := by omega
          have hgei : (128 : Int) ≤ (pg.length : Int) + (rest.length : Int) := by omega
          have hql : (q : Int) ≤ (rest.length : Int) := by omega
          have hqp : pg.length + q = 128 := by omega
          have hqr : q ≤ rest.length := by omega
          have hpc := JM.piece_full hpS hpr hqp hqr
          have hrf := JM.rest_full (n := q) hpr hqp hqr
          have hm1p : m + 1 ≤ JM.pcs (JM.stream recs) := by unfold JM.pcs; omega
          have hs41 : (⟨pg.toArray⟩ : ByteArray) ++ (⟨rest.toArray⟩ : ByteArray).extract 0 q = ⟨(JM.piece (JM.stream recs) m).toArray⟩ := by
            rw [← hpc]
            apply str_ext
            simp [ByteArray.data_extract, List.extract_eq_take_drop]
          have hbd : Below B wr wr.drew := (below_drew wr).mono hK.size
          have hownd := own_only hown (Only.of_below (L := []) (below_drew wr)) (by simp)
          have hcv := run_conv_at wr.drew (some ⟨B, 0, none⟩) 128 pg.length pg rfl (own_holds hownd)
          obtain ⟨fn, tmps, assign, body, hy, hRd⟩ := HY.out (JM.rows (JM.stream recs) m) (JM.piece (JM.stream recs) m) wr.drew (HJ.out _ _ _ hJm hK.size hbd) (Nat.le_trans hK.size hbd.size) (by rw [JM.rows_next]; exact JM.rows_prefix _ hm1p)
          dsimp only [encP] at hy
          have hmx : Try.prog.follows .mixedOrders = true := by kernel_rfl
          gi_wp2
          gi_region_with_o (refine ⟨fun h => (by cases h), (roundDone_one hRd).mono ?_⟩; rintro e W3 ⟨bb, rfl, hbb, hO3⟩)
          have hsz3 := Nat.le_trans hbd.size hO3.size
          have hK3 := (hK.below hbd).only hO3
          have hown3 := own_only hownd hO3 (fun k hk => HLL.out k hk)
          clear hy hRd hcv hs41 hO3 hownd hown hJm hK hbd
          gi_wp2
          · rename_i hb
            refine bodyPost_ret (results_none rfl _ _ _) rfl ?_
            rcases hbb with ⟨hb1, _⟩ | ⟨_, hx⟩
            · exact absurd hb1 (by simpa using hb)
            · exact ⟨⟨_, rfl⟩, .inr ⟨_, by rw [JM.rows_next]; exact JM.rows_prefix _ hm1p, hx⟩⟩
          · rename_i hb
            rcases hbb with ⟨_, hJ3⟩ | ⟨hb1, _⟩
            · have hs48 : (⟨rest.toArray⟩ : ByteArray).extract q rest.length = ⟨(rest.drop q).toArray⟩ := by
                apply str_ext
                simp [ByteArray.data_extract, List.extract_eq_take_drop]
                rw [List.take_of_length_le (by rw [List.length_drop]; omega)]
              have hown4 := own_zero (own_only hown3 (Only.of_below (L := []) (below_drew W3)) (by simp))
              have hbd3 : Below B W3 W3.drew := (below_drew W3).mono hK3.size
              have hK4 := hK3.below hbd3
              have hJ4 := HJ.out _ _ _ hJ3 hK3.size hbd3
              rw [JM.rows_next] at hJ4
              clear hown3 hK3 hJ3
              have hmeas : textLen (.string ⟨(rest.drop q).toArray⟩) < textLen (.string ⟨rest.toArray⟩) := by
                show (⟨(rest.drop q).toArray⟩ : ByteArray).size < (⟨rest.toArray⟩ : ByteArray).size
                rw [str_size, str_size, List.length_drop]; omega
              have hrel' : PiRel (JM.stream recs) p J B l L W1 (.slice (some ⟨B, 0, none⟩) 0 128) (.string ⟨(rest.drop q).toArray⟩) W3.drew := ⟨m + 1, [], rest.drop q, rfl, rfl, hown4, by simp, by omega, by rw [List.nil_append]; exact hrf, hJ4, hK4⟩
              clear hown4 hJ4 hK4 hrf hpr hpc hplr
              gi_region_with_o (fail)
              all_goals go_simp
              all_goals gi_wp2
              all_goals exact ⟨hrel', hmeas⟩
            · exact absurd hb (by rw [hb1]; simp)
        · have hgei : (pg.length : Int) + (rest.length : Int) < (128 : Int) := by omega
          obtain ⟨z, hz⟩ : ∃ z, pg.length + rest.length = z := ⟨_, rfl⟩
          have hroom : pg.length + (⟨rest.toArray⟩ : ByteArray).size ≤ 128 := by rw [hrsz]; omega
          obtain ⟨w5, hrun5, hown5, hgrow5⟩ := Lib.run_append_fits_string (P := Try.prog) wr B 110 9 110 5 i0 Try.underlying110 Try.underlying9 hi hz1 _ _ _ _ hown ⟨rest.toArray⟩ (by omega) hroom
          have hsc : Lib.strCells (⟨rest.toArray⟩ : ByteArray) = rest.map B8 := strCells_rows rest
          rw [hsc, hrsz, ← List.map_append] at hown5
          have hb5 : Below B wr w5 := (Below.refl B wr).grown hgrow5 hK.size (fun k hk => by cases hk; exact Nat.le_refl _)
          have hK5 := hK.below hb5
          have hJ5 := HJ.out _ _ _ hJm hK.size hb5
          have hrelN : PtRel (JM.stream recs) recs J B l L W1 (.slice (some ⟨B, 0, none⟩) (p - 128 * m) 128) (.int .i64 (wrap64 ((j : Int) + 1))) w5 := by
            have hnl : nr ≤ 1000000 := by
              have := JM.useR_count recs
              rw [hnr.out] at this
              have := HU.out
              omega
            refine ⟨j + 1, m, pg ++ rest, by rw [hnr.out]; omega, ?_, ?_, ?_, ?_, ?_, ?_, hJ5, hK5⟩
            · rw [wrap64_small (by omega) (by omega)]; rfl
            · rw [List.length_append, hplr]
            · rw [List.length_append]; exact hown5
            · rw [List.length_append]; omega
            · rw [hp]; exact hm
            · rw [hp]; exact hpr
          have hmeasN : nr - natOf (.int .i64 (wrap64 ((j : Int) + 1))) < nr - natOf (.int .i64 (j : Int)) := by
            have hnl : nr ≤ 1000000 := by
              have := JM.useR_count recs
              rw [hnr.out] at this
              have := HU.out
              omega
            rw [wrap64_small (by omega) (by omega)]
            simp [natOf]
            omega
          rw [show p - 128 * m = z by omega] at hrelN
          clear hown5 hb5 hK5 hJ5 hsc hgrow5 hown hK hJm hpr hplr hroom
          gi_wp2_with (gi_at_builtin; refine wpListIn_text rfl _ _ _ _ rfl _ _ _ _ rfl rfl _ _ hrun5 ?_)
          exact ⟨hrelN, hmeasN⟩
    · obtain rfl : j = nr := by omega
      have hall : JM.useR (recs.take j) = (JM.stream recs).length := by
        rw [← hnr.out, List.take_length, JM.stream_length]
      rw [hall] at hm hpg
      rw [List.take_length] at hpg
      have hpgl : pg.length = (JM.stream recs).length - 128 * m := by rw [hpg, List.length_drop]
      by_cases h0 : pg.length = 0
      · have hmp : JM.pcs (JM.stream recs) = m := by unfold JM.pcs; omega
        have hpi : ((pg.length : Nat) : Int) = 0 := by omega
        rw [← hmp] at hJm
        clear hown hK
        gi_wp2
        go_end0
        exact ⟨⟨_, rfl⟩, .inl hJm⟩
      · have hmp : JM.pcs (JM.stream recs) = m + 1 := by unfold JM.pcs; omega
        have hpi : (0 : Int) < (pg.length : Int) := by omega
        have hpc := JM.piece_last hpg hpl
        have hcv := run_conv_at wr (some ⟨B, 0, none⟩) 128 pg.length pg rfl (own_holds hown)
        obtain ⟨fn, tmps, assign, body, hy, hRd⟩ := HY.out (JM.rows (JM.stream recs) m) (JM.piece (JM.stream recs) m) wr hJm hK.size (by rw [JM.rows_next]; exact JM.rows_prefix _ (by omega))
        dsimp only [encP] at hy
        rw [← hpc] at hy
        have HMP := Lib.hid hmp
        clear hown hK hJm hpg hpc hmp hpgl
        gi_wp2
        refine ⟨fun h => (by cases h), (roundDone_one hRd).mono ?_⟩
        rintro e W3 ⟨bb, rfl, hbb, _⟩
        gi_wp2
        go_end0
        rcases hbb with ⟨_, hx⟩ | ⟨_, hx⟩
        · rw [JM.rows_next, ← HMP.out] at hx
          exact ⟨⟨_, rfl⟩, .inl hx⟩
        · exact ⟨⟨_, rfl⟩, .inr ⟨_, by rw [JM.rows_next]; exact JM.rows_prefix _ (by rw [HMP.out]; exact Nat.le_refl _), hx⟩⟩
end Go.Proofs.Ythgmlopkcgkjlaa
