/-
  Contracts of the functions that the statement calls, part 14 of 37 (merged texts: Rs1, Rs2, Rs3). Conditions: as the head of each part says.
-/
import Derived.Test.YthgmlopkcgkjlaaGM
import Derived.Lib.ConvBytes
import Derived.Deep.Upon

/-
  A row of bytes made from a string: its bytes, and a store of one of them. Conditions: none.
-/
namespace Go.Proofs.Ythgmlopkcgkjlaa
open Go.RowKit
variable {P : Program}

/-- Bytes that lie in block g from its start on, and may be written. -/
structure Held (w : World) (g : Nat) (l : List UInt8) : Prop where
  lt : g < w.heap.size
  cell : ∀ (k : Nat) (b : UInt8), l[k]? = some b → w.cell? ⟨g, k, none⟩ = some (.int .u8 (b.toNat : Int))
  free : ∀ k, k < l.length → w.frozen? ⟨g, k, none⟩ = false
theorem Held.holds {w : World} {g : Nat} {l : List UInt8} (h : Held w g l) : Holds w (some ⟨g, 0, none⟩) (l.map B8) := fun k u hu => by
  rw [List.getElem?_map] at hu
  cases hb : l[k]? with
  | none => rw [hb] at hu; cases hu
  | some b =>
    rw [hb] at hu
    injection hu with hu
    refine ⟨_, rfl, ?_⟩
    rw [addr_mid, Nat.zero_add, h.cell k b hb, ← hu]; rfl
theorem Held.same {w w' : World} {g : Nat} {l : List UInt8} (h : Held w g l) (hs : w.heap.size ≤ w'.heap.size) (hb : w'.heap[g]? = w.heap[g]?) : Held w' g l :=
  ⟨Nat.lt_of_lt_of_le h.lt hs, fun k b hk => (World.cell?_of_block (a := ⟨g, k, none⟩) hb).trans (h.cell k b hk), fun k hk => (World.frozen?_of_block (a := ⟨g, k, none⟩) hb).trans (h.free k hk)⟩
theorem Held.next {w w' : World} {g : Nat} {l : List UInt8} (h : Held w g l) (hb : Below w.heap.size w w') : Held w' g l := h.same hb.size (hb.block g h.lt)
theorem Held.upd {w w' : World} {g g' : Nat} {l : List UInt8} (h : Held w g l) (hu : Upd g' w w') (hne : g ≠ g') : Held w' g l := h.same (Nat.le_of_eq hu.size.symm) (hu.block g hne)
theorem held_bytes (w : World) (e : TypeId) (s : ByteArray) : Held (Lib.bytesWorld w e s) w.heap.size s.data.toList := by
  refine ⟨by rw [Lib.bytesWorld_size]; omega, fun k b hk => ?_, fun k hk => ?_⟩
  · have hj : k < s.size := by
      have := (List.getElem?_eq_some_iff.1 hk).1
      rw [Array.length_toList] at this
      exact this
    rw [Lib.bytesWorld_cell w e s k hj, List.getD_eq_getElem?_getD, hk]; rfl
  · have hn := Lib.bytesWorld_at_new w e s
    have hsz : k < (Lib.bytesCells w e s).size := by
      rw [Array.length_toList] at hk
      unfold Lib.bytesCells
      rw [Array.size_append, Array.size_map]
      omega
    simp [World.frozen?, hn]
    omega
theorem upd_setCells (w : World) (g o : Nat) (v : Value) : Upd g w (w.setCells g o [v]) :=
  ⟨rfl, rfl, rfl, by simp [World.setCells, World.setCell], fun k hk => by
    rcases Nat.lt_or_ge k w.heap.size with h | h
    · exact World.heap_setCells_other w g o [v] h hk
    · rw [Array.getElem?_eq_none h, Array.getElem?_eq_none (by simp [World.setCells, World.setCell]; exact h)]⟩
theorem Held.set {w : World} {g : Nat} {l : List UInt8} (h : Held w g l) (q : Nat) (y : UInt8) (hq : q < l.length) : Held (w.setCells g q [.int .u8 (y.toNat : Int)]) g (l.set q y) := by
  have hu := upd_setCells w g q (.int .u8 (y.toNat : Int))
  refine ⟨by rw [hu.size]; exact h.lt, fun k b hk => ?_, fun k hk => ?_⟩
  · by_cases e : q = k
    · subst e
      rw [List.getElem?_set_self hq] at hk
      injection hk with hk
      subst hk
      have hsome : (w.cell? ⟨g, q + 0, none⟩).isSome = true := by
        rw [Nat.add_zero, h.cell q _ (List.getElem?_eq_getElem hq)]; rfl
      have := World.cell?_setCells_in g [.int .u8 (y.toNat : Int)] q w (fun j hj => by
        have : j = 0 := by simp at hj; exact hj
        subst this; exact hsome) 0 (by simp)
      simpa using this
    · rw [List.getElem?_set_ne e] at hk
      rw [World.cell?_setCells_out g [.int .u8 (y.toNat : Int)] q w ⟨g, k, none⟩ (fun _ _ => by simp; omega)]
      exact h.cell k b hk
  · rw [List.length_set] at hk
    rw [World.frozen?_setCells]
    exact h.free k hk
theorem wp_putByte {o : Oper} {a : Act} {w : World} {K : Act → World → Prop} {Q : Exit → Act → World → Prop} (ty : TypeId) (x y : Operand) (ho : o.op = .store ty x y)
    (g q : Nat) (b : UInt8) (hx : a.eval x = .pointer (some ⟨g, q, none⟩)) (hy : a.eval y = .int .u8 (b.toNat : Int)) {l : List UInt8} (hh : Held w g l) (hq : q < l.length) (hi : (P.info? ty).map (·.size) = some 1)
    (h : ∀ w', Upd g w w' → Held w' g (l.set q b) → K (a.put o.dst undef) w') : Oper.wp P o a w K Q := by
  have hsome : (w.cell? ⟨g, q, none⟩).isSome = true := by rw [hh.cell q _ (List.getElem?_eq_getElem hq)]; rfl
  have hrun := run_storeCells_cells (P := P) g q [.int .u8 (b.toNat : Int)] 0 w (fun j hj => by
    have : j = 0 := by simp at hj; exact hj
    subst this; exact hsome) (fun j hj => by
    have : j = 0 := by simp at hj; exact hj
    subst this; exact hh.free q hq) (one_cell1 rfl)
  rw [Nat.add_zero] at hrun
  have hput : (storeVar ty ⟨g, q, none⟩ (.int .u8 (b.toNat : Int))).run P w = .ok () (w.setCells g q [.int .u8 (b.toNat : Int)]) := by
    cases hqi : P.info? ty with
    | none => simp [hqi] at hi
    | some i =>
      have hs : i.size = 1 := by simpa [hqi] using hi
      simp [storeVar, sizeOf, typeInfo, hqi, Value.cells, hs, hrun]
  unfold Oper.wp execOp
  simp only [ho, hx, hy, Instr.storeAt, Instr.sureAddr, Sem.run_bind, Sem.run_pure, Result.andThen_ok, hput]
  exact h _ (upd_setCells w g q _) (hh.set q b hq)
theorem wpList_bytesH {ops : Array Oper} {rest : List Oper} {o : Oper} {a : Act} {w : World} {Q : Exit → Act → World → Prop} (hgd : o.guard = none) (x : Operand) (ho : o.op = .convert 9 110 x) (s : ByteArray) (hx : a.eval x = .string s)
    (h : ∀ g cap w', Hid (w.heap.size = g) → Below w.heap.size w w' → Held w' g s.data.toList → wpList Try.prog ops Q rest (a.put o.dst (.slice (some ⟨g, 0, none⟩) s.size cap)) w') : wpList Try.prog ops Q (o :: rest) a w := by
  refine wpList_plain hgd fun K hK => ?_
  have hrun := Lib.run_convert_string_bytes (P := Try.prog) w 9 110 5 s Try.underlying9 Try.underlying110 Try.underlying5
  unfold Oper.wp execOp
  simp [ho, hx, hrun]
  exact hK _ _ (h _ _ _ rfl ⟨rfl, rfl, rfl, by rw [Lib.bytesWorld_size]; omega, fun k hk => Lib.bytesWorld_at_old w _ s k hk⟩ (held_bytes w _ s))
end Go.Proofs.Ythgmlopkcgkjlaa

/-
  Contract of the walk over the reference's Rot. Conditions: the record holds the disk.
-/
namespace Go.Proofs.Ythgmlopkcgkjlaa
open Go.RowKit

set_option maxRecDepth 100000 in
set_option maxHeartbeats 3200000 in
theorem rrot_any (gr ga cap : Nat) (X : List Value) (M : DM) (i b : Int) (w : World) (hM : M.ok) (h : RRep w gr ga cap X M) :
    Calls Try.prog 62 #[.pointer (some ⟨gr, 0, none⟩), .int .i64 i, .int .i64 b] w fun x w' => x = .returned (.int .i64 (M.rotE i b)) ∧ RRep w' gr ga cap X (M.rot i b) ∧ Only [gr, ga] w w' := by
  obtain ⟨b0, hp⟩ : ∃ b0, M.okP i = b0 := ⟨_, rfl⟩
  have HP := Lib.hid hp
  have HH := Lib.hid h
  by_cases hf : (M.okP i && decide (0 ≤ b ∧ b < 1024)) = true
  · obtain ⟨e1, e2⟩ := rot_good hf
    have hft : b0 = true ∧ 0 ≤ b ∧ b < 1024 := by
      rw [hp, Bool.and_eq_true] at hf
      exact ⟨hf.1, of_decide_eq_true hf.2⟩
    obtain ⟨rfl, hb0, hb1⟩ := hft
    obtain ⟨j, rfl, hj⟩ := DM.okP_nat hp
    obtain ⟨n, rfl⟩ : ∃ n : Nat, b = (n : Int) := ⟨b.toNat, by omega⟩
    rw [Int.toNat_natCast, Int.toNat_natCast] at e2
    obtain ⟨q, hq⟩ : ∃ q, n / 8 = q := ⟨_, rfl⟩
    obtain ⟨r, hr⟩ : ∃ r, n % 8 = r := ⟨_, rfl⟩
    have hq128 : q < 128 := by omega
    have hr8 : r < 8 := by omega
    obtain ⟨l, hl⟩ : ∃ l, (M.page j).old = l := ⟨_, rfl⟩
    have hll : l.length = 128 := by rw [← hl]; exact (DM.page_ok hM hj).1
    obtain ⟨x, hx⟩ : ∃ x, l[q]? = some x := ⟨_, List.getElem?_eq_getElem (by omega)⟩
    obtain ⟨y, hy⟩ : ∃ y, x ^^^ UInt8.ofNat (2 ^ r) = y := ⟨_, rfl⟩
    have hflip : DM.flip l n = l.set q y := by unfold DM.flip; rw [hq, hr, List.getD_eq_getElem?_getD, hx, ← hy]; rfl
    rw [hl, hflip] at e2
    have hxor : bits .xor .u8 (x.toNat : Int) (2 ^ r) = (y.toNat : Int) := by
      have := u8_xor x (UInt8.ofNat (2 ^ r))
      rw [pow_byte r hr8, hy] at this
      rw [← this, Int.natCast_pow]; rfl
    have hwp := wrap_pow r hr8
    have hwq : IntKind.i64.wrap (q : Int) = (q : Int) := by simp only [IntKind.wrap_i64]; omega
    have hwr : IntKind.i64.wrap (r : Int) = (r : Int) := by simp only [IntKind.wrap_i64]; omega
    have hq0 : (0 : Int) ≤ (q : Int) := by omega
    have hr0 : (0 : Int) ≤ (r : Int) := by omega
    have hr8i : (r : Int) < 8 := by omega
    have hqi : (q : Int) < 128 := by omega
    have hqd : (n : Int).tdiv 8 = (q : Int) := by rw [Int.tdiv_eq_ediv_of_nonneg (by omega)]; omega
    have hrd : (n : Int).tmod 8 = (r : Int) := by rw [Int.tmod_eq_emod_of_nonneg (by omega)]; omega
    obtain ⟨so, hso⟩ : ∃ so : ByteArray, (⟨l.toArray⟩ : ByteArray) = so := ⟨_, rfl⟩
    have hzo : so.size = 128 := by rw [← hso]; exact hll
    have hlo : Hid (so.data.toList = l) := by
      have : so.data.toList = l := by rw [← hso]
      exact this
    have hsp : Hid (splice (pgRow M.ps ++ X) (j * 3 + 0) [.string ⟨(l.set q y).toArray⟩] = pgRow (M.ps.set j ⟨l.set q y, (M.page j).new⟩) ++ X) := by
      have : splice (pgRow M.ps ++ X) (j * 3 + 0) [.string ⟨(l.set q y).toArray⟩] = pgRow (M.ps.set j ⟨l.set q y, (M.page j).new⟩) ++ X := pgRow_splice (DM.page_at hj) X 0 _ _ rfl (by simp)
      exact this
    obtain ⟨N, hN⟩ : ∃ N, Hid (M.ps.length = N) := ⟨_, rfl⟩
    have hjN : (j : Int) < (N : Int) := by have := hN.out; omega
    have hjn : j < N := by have := hN.out; omega
    have hlen : Hid ((pgRow M.ps ++ X).length = N * 3 + X.length) := by
      have : (pgRow M.ps ++ X).length = N * 3 + X.length := by rw [List.length_append, pgRow_length, hN.out]
      exact this
    have c0 := h.d.cell (k := 0) rfl
    rw [hN.out] at c0
    have q0 : w.cell? ⟨ga, j * 3, none⟩ = some (.string so) := by
      have := h.q0 hj
      rw [hl] at this
      rw [← hso]; exact this
    have HX := Lib.hid hx
    have HLL := Lib.hid hll
    rw [e1, e2]
    obtain ⟨PG, hPG⟩ : ∃ PG : Pg, Hid ((⟨l.set q y, (M.page j).new⟩ : Pg) = PG) := ⟨_, rfl⟩
    rw [hPG.out] at hsp ⊢
    clear e1 e2 hf hp hq hr hl hll hx hy hflip hso hM hj h
    go_enter Try.func62, Try.ntmps62
    go_wp2_with fail
    (with_reducible refine (ris_any gr ga cap X M _ _ _ HP.out HH.out).mono ?_)
    rintro e w' ⟨rfl, rfl⟩
    go_wp2_with (with_reducible refine wpList_bytesH (o := ⟨some 30, .convert 9 110 (.tmp 29), _, _, _, _⟩) (by with_unfolding_all rfl) (.tmp 29) (by with_unfolding_all rfl) so (by with_unfolding_all rfl) ?_)
    intro g cap2 w2 hg hb2 hH2
    rw [hlo.out] at hH2
    have hd2 := below_drew w2
    have hH3 := hH2.next hd2
    have hb3 := below_join hb2 hd2
    have hc3 := hH3.cell q x HX.out
    have hgw : w.heap.size ≤ g := Nat.le_of_eq hg.out
    clear c0 q0 hb2 hH2 hd2 hg
    go_wp2
    refine wp_region_held_drew (S := fun _ => True) (by kernel_rfl) trivial (fun hHeld => ?_)
    generalize w2.drew = wd at hb3 hH3 hc3 ⊢
    refine wpAnyH_take (i := 0) (v := ?vv0) rfl (by kernel_rfl) (by kernel_rfl) (by kernel_rfl) (fun _ _ _ h => h) (Or.inl ⟨by rfl, ?yv0⟩) (by assumption) ?rv0
    case yv0 => intro w hSw; (try dsimp only at hSw); go_simp <;> (try with_reducible rfl)
    (try simp only [List.getElem_toArray, List.getElem_cons_zero, Act.put, List.setIfInBounds_toArray, List.set_cons_zero, List.set_cons_succ])
    refine wpAnyH_take (i := 1) (v := ?vv1) rfl (by kernel_rfl) (by kernel_rfl) (by kernel_rfl) (fun _ _ _ h => h) (Or.inl ⟨by rfl, ?yv1⟩) (by assumption) ?rv1
    case yv1 => intro w hSw; (try dsimp only at hSw); go_simp <;> (try with_reducible rfl)
    (try simp only [List.getElem_toArray, List.getElem_cons_succ, List.getElem_cons_zero, Act.put, List.setIfInBounds_toArray, List.set_cons_zero, List.set_cons_succ])
    refine wpAnyH_take (i := 2) (v := ?vv2) rfl (by kernel_rfl) (by kernel_rfl) (by kernel_rfl) (fun _ _ _ h => h) (Or.inl ⟨by rfl, ?yv2⟩) (by assumption) ?rv2
    case yv2 => intro w hSw; (try dsimp only at hSw); go_simp <;> (try with_reducible rfl)
    (try simp only [List.getElem_toArray, List.getElem_cons_succ, List.getElem_cons_zero, Act.put, List.setIfInBounds_toArray, List.set_cons_zero, List.set_cons_succ])
    refine wpAnyH_take (i := 3) (v := ?vv3) rfl (by kernel_rfl) (by kernel_rfl) (by kernel_rfl) (fun _ _ _ h => h) (Or.inl ⟨by rfl, ?yv3⟩) (by assumption) ?rv3
    case yv3 => intro w hSw; (try dsimp only at hSw); go_simp <;> (try with_reducible rfl)
    (try simp only [List.getElem_toArray, List.getElem_cons_succ, List.getElem_cons_zero, Act.put, List.setIfInBounds_toArray, List.set_cons_zero, List.set_cons_succ])
    refine wpAnyH_take (i := 4) (v := ?vv4) rfl (by kernel_rfl) (by kernel_rfl) (by kernel_rfl) (fun _ _ _ h => h) (Or.inl ⟨by rfl, ?yv4⟩) (by assumption) ?rv4
    case yv4 => intro w hSw; (try dsimp only at hSw); go_simp <;> (try with_reducible rfl)
    (try simp only [List.getElem_toArray, List.getElem_cons_succ, List.getElem_cons_zero, Act.put, List.setIfInBounds_toArray, List.set_cons_zero, List.set_cons_succ])
    refine wpAnyH_take (i := 5) (v := ?vv5) rfl (by kernel_rfl) (by kernel_rfl) (by kernel_rfl) (fun _ _ _ h => h) (Or.inl ⟨by rfl, ?yv5⟩) (by assumption) ?rv5
    case yv5 => intro w hSw; (try dsimp only at hSw); go_simp <;> (try with_reducible rfl)
    (try simp only [List.getElem_toArray, List.getElem_cons_succ, List.getElem_cons_zero, Act.put, List.setIfInBounds_toArray, List.set_cons_zero, List.set_cons_succ])
    refine wpAnyH_take (i := 6) (v := ?vv6) rfl (by kernel_rfl) (by kernel_rfl) (by kernel_rfl) (fun _ _ _ h => h) (Or.inl ⟨by rfl, ?yv6⟩) (by assumption) ?rv6
    case yv6 => intro w hSw; (try dsimp only at hSw); go_simp <;> (try with_reducible rfl)
    (try simp only [List.getElem_toArray, List.getElem_cons_succ, List.getElem_cons_zero, Act.put, List.setIfInBounds_toArray, List.set_cons_zero, List.set_cons_succ])
    refine wpAnyH_take (i := 8) (v := ?vv8) rfl (by kernel_rfl) (by kernel_rfl) (by kernel_rfl) (fun _ _ _ h => h) (Or.inl ⟨by rfl, ?yv8⟩) (by assumption) ?rv8
    case yv8 => intro w hSw; (try dsimp only at hSw); go_simp <;> (try with_reducible rfl)
    (try simp only [List.getElem_toArray, List.getElem_cons_succ, List.getElem_cons_zero, Act.put, List.setIfInBounds_toArray, List.set_cons_zero, List.set_cons_succ])
    refine wpAnyH_take (i := 9) (v := ?vv9) rfl (by kernel_rfl) (by kernel_rfl) (by kernel_rfl) (fun _ _ _ h => h) (Or.inl ⟨by rfl, ?yv9⟩) (by assumption) ?rv9
    case yv9 => intro w hSw; (try dsimp only at hSw); go_simp <;> (try with_reducible rfl)
    (try simp only [List.getElem_toArray, List.getElem_cons_succ, List.getElem_cons_zero, Act.put, List.setIfInBounds_toArray, List.set_cons_zero, List.set_cons_succ])
    refine wpAnyH_take (i := 10) (v := ?vv10) rfl (by kernel_rfl) (by kernel_rfl) (by kernel_rfl) (fun _ _ _ h => h) (Or.inl ⟨by rfl, ?yv10⟩) (by assumption) ?rv10
    case yv10 => intro w hSw; (try dsimp only at hSw); go_simp <;> (try with_reducible rfl)
    (try simp only [List.getElem_toArray, List.getElem_cons_succ, List.getElem_cons_zero, Act.put, List.setIfInBounds_toArray, List.set_cons_zero, List.set_cons_succ])
    refine wpAnyH_ready (rs := [7]) (by kernel_rfl) (by simp) ?_
    refine AllReadyH.cons rfl (fun K hK => ?_) AllReadyH.nil
    go_simp
    refine hK.out _ _ trivial (fun hHeld => ?_)
    clear hK K
    refine wpAnyH_take (i := 11) (v := ?vv11) rfl (by kernel_rfl) (by kernel_rfl) (by kernel_rfl) (fun _ _ _ h => h) (Or.inl ⟨by rfl, ?yv11⟩) (by assumption) ?rv11
    case yv11 => intro w hSw; (try dsimp only at hSw); go_simp <;> (try with_reducible rfl)
    (try simp only [List.getElem_toArray, List.getElem_cons_succ, List.getElem_cons_zero, Act.put, List.setIfInBounds_toArray, List.set_cons_zero, List.set_cons_succ])
    refine wpAnyH_take (i := 12) (v := ?vv12) rfl (by kernel_rfl) (by kernel_rfl) (by kernel_rfl) (fun _ _ _ h => h) (Or.inl ⟨by rfl, ?yv12⟩) (by assumption) ?rv12
    case yv12 => intro w hSw; (try dsimp only at hSw); go_simp <;> (try with_reducible rfl)
    (try simp only [List.getElem_toArray, List.getElem_cons_succ, List.getElem_cons_zero, Act.put, List.setIfInBounds_toArray, List.set_cons_zero, List.set_cons_succ])
    refine wpAnyH_ready (rs := [13]) (by kernel_rfl) (by simp) ?_
    refine AllReadyH.cons rfl (fun K hK => ?_) AllReadyH.nil
    rw [if_pos (by rfl)]
    refine wp_putByte 5 (.tmp 43) (.tmp 42) rfl g q y rfl rfl hH3 (by rw [HLL.out]; exact hq128) (by exact Try.sz5) ?_
    intro w4 hu4 hH4
    have hb4 := hb3.trans (hu4.below (B := w.heap.size) hgw)
    refine hK.out _ _ trivial (fun hHeld => ?_)
    clear hK K hHeld hb3 hH3 hc3 hu4
    refine wpAnyH_done (by kernel_rfl) ?_ _
    have hd4 := below_drew w4
    have hb5 := below_join hb4 hd4
    have hH5 := hH4.next hd4
    have hR5 := HH.out.next hb5
    have hS := hR5.d.cell (k := 0) rfl
    rw [hN.out] at hS
    have hcv := run_conv_at w4.drew (some ⟨g, 0, none⟩) cap2 128 (l.set q y) (by rw [List.length_set]; exact HLL.out.symm) hH5.holds
    obtain ⟨sn, hsn⟩ : ∃ sn : ByteArray, (⟨(l.set q y).toArray⟩ : ByteArray) = sn := ⟨_, rfl⟩
    rw [hsn] at hcv hsp
    clear hb4 hd4 hH4 hH5 hsn
    go_wp2
    refine wp_region_held_drew (S := fun w' => w'.cell? ⟨gr, 0, none⟩ = some (.slice (some ⟨ga, 0, none⟩) N cap)) (by kernel_rfl) hS (fun hHeld => ?_)
    generalize w4.drew = we at hb5 hR5 hS hcv hHeld ⊢
    refine wpAnyH_take (i := 0) (v := ?vu0) rfl (by kernel_rfl) (by kernel_rfl) (by kernel_rfl) (fun _ _ _ h => h) (Or.inl ⟨by rfl, ?yu0⟩) (by assumption) ?ru0
    case yu0 => intro w hSw; (try dsimp only at hSw); go_simp <;> (try with_reducible rfl)
    (try simp only [List.getElem_toArray, List.getElem_cons_zero, Act.put, List.setIfInBounds_toArray])
    refine wpAnyH_take (i := 1) (v := ?vu1) rfl (by kernel_rfl) (by kernel_rfl) (by kernel_rfl) (fun _ _ _ h => h) (Or.inl ⟨by rfl, ?yu1⟩) (by assumption) ?ru1
    case yu1 => intro w hSw; (try dsimp only at hSw); go_simp <;> (try with_reducible rfl)
    (try simp only [List.getElem_toArray, List.getElem_cons_succ, List.getElem_cons_zero, Act.put, List.setIfInBounds_toArray, List.set_cons_zero, List.set_cons_succ])
    refine wpAnyH_take (i := 2) (v := ?vu2) rfl (by kernel_rfl) (by kernel_rfl) (by kernel_rfl) (fun _ _ _ h => h) (Or.inl ⟨by rfl, ?yu2⟩) (by assumption) ?ru2
    case yu2 => intro w hSw; (try dsimp only at hSw); go_simp <;> (try with_reducible rfl)
    (try simp only [List.getElem_toArray, List.getElem_cons_succ, List.getElem_cons_zero, Act.put, List.setIfInBounds_toArray, List.set_cons_zero, List.set_cons_succ])
    refine wpAnyH_take (i := 3) (v := ?vu3) rfl (by kernel_rfl) (by kernel_rfl) (by kernel_rfl) (fun _ _ _ h => h) (Or.inl ⟨by rfl, ?yu3⟩) (by assumption) ?ru3
    case yu3 => intro w hSw; (try dsimp only at hSw); go_simp <;> (try with_reducible rfl)
    (try simp only [List.getElem_toArray, List.getElem_cons_succ, List.getElem_cons_zero, Act.put, List.setIfInBounds_toArray, List.set_cons_zero, List.set_cons_succ])
    refine wpAnyH_take (i := 4) (v := ?vu4) rfl (by kernel_rfl) (by kernel_rfl) (by kernel_rfl) (fun _ _ _ h => h) (Or.inl ⟨by rfl, ?yu4⟩) (by assumption) ?ru4
    case yu4 => intro w hSw; (try dsimp only at hSw); go_simp <;> (try with_reducible rfl)
    (try simp only [List.getElem_toArray, List.getElem_cons_succ, List.getElem_cons_zero, Act.put, List.setIfInBounds_toArray, List.set_cons_zero, List.set_cons_succ])
    refine wpAnyH_take (i := 5) (v := ?vu5) rfl (by kernel_rfl) (by kernel_rfl) (by kernel_rfl) (fun _ _ _ h => h) (Or.inl ⟨by rfl, ?yu5⟩) (by assumption) ?ru5
    case yu5 => intro w hSw; (try dsimp only at hSw); go_simp <;> (try with_reducible rfl)
    (try simp only [List.getElem_toArray, List.getElem_cons_succ, List.getElem_cons_zero, Act.put, List.setIfInBounds_toArray, List.set_cons_zero, List.set_cons_succ])
    refine wpAnyH_ready (rs := [6]) (by kernel_rfl) (by simp) ?_
    refine AllReadyH.cons rfl (fun K hK => ?_) AllReadyH.nil
    go_simp
    refine hK.out _ _ hHeld (fun hHeld => ?_)
    clear hK K
    refine wpAnyH_take (i := 7) (v := ?vu7) rfl (by kernel_rfl) (by kernel_rfl) (by kernel_rfl) (fun _ _ _ h => h) (Or.inl ⟨by rfl, ?yu7⟩) (by assumption) ?ru7
    case yu7 => intro w hSw; (try dsimp only at hSw); go_simp <;> (try with_reducible rfl)
    (try simp only [List.getElem_toArray, List.getElem_cons_succ, List.getElem_cons_zero, Act.put, List.setIfInBounds_toArray, List.set_cons_zero, List.set_cons_succ])
    refine wpAnyH_take (i := 8) (v := ?vu8) rfl (by kernel_rfl) (by kernel_rfl) (by kernel_rfl) (fun _ _ _ h => h) (Or.inl ⟨by rfl, ?yu8⟩) (by assumption) ?ru8
    case yu8 => intro w hSw; (try dsimp only at hSw); go_simp <;> (try with_reducible rfl)
    (try simp only [List.getElem_toArray, List.getElem_cons_succ, List.getElem_cons_zero, Act.put, List.setIfInBounds_toArray, List.set_cons_zero, List.set_cons_succ])
    refine wpAnyH_ready (rs := [9]) (by kernel_rfl) (by simp) ?_
    refine AllReadyH.cons rfl (fun K hK => ?_) AllReadyH.nil
    rw [if_pos (by rfl)]
    refine wp_put 9 (.tmp 52) (.tmp 50) rfl ga (j * 3) rfl (.string sn) rfl hR5.p [.string sn] rfl (by exact Try.szS) (by rw [hlen.out, List.length_singleton]; omega) (one_cell1 rfl) ?_
    intro w7 hu7 hB7
    rw [show j * 3 = j * 3 + 0 from rfl, hsp.out] at hB7
    have hD7 := hR5.d.upd hu7 hR5.n1
    have h7 : RRep w7 gr ga cap X (M.set j PG) := ⟨by rw [DM.set_len]; exact hD7, hB7, hR5.n1⟩
    have ho8 := (Only.of_below (L := [gr, ga]) hb5).trans (Only.of_upd (L := [gr, ga]) hu7 (by simp))
    have hS7 := hD7.cell (k := 0) rfl
    rw [hN.out] at hS7
    refine hK.out _ _ hS7 (fun hHeld => ?_)
    clear hK K hHeld hB7 hD7 hu7 hb5 hR5 hS hcv
    refine wpAnyH_done (by kernel_rfl) ?_ _
    go_wp2
    go_ret
    exact ⟨rfl, h7, ho8⟩
  · have hff : (M.okP i && decide (0 ≤ b ∧ b < 1024)) = false := by simpa using hf
    obtain ⟨e1, e2⟩ := rot_bad hff
    rw [e1, e2]
    have hcase : b0 = false ∨ (b0 = true ∧ b < 0) ∨ (b0 = true ∧ 0 ≤ b ∧ 1024 ≤ b) := by
      rw [hp] at hff
      cases b0 with
      | false => exact Or.inl rfl
      | true =>
        rw [Bool.true_and] at hff
        have := of_decide_eq_false hff
        by_cases h0 : b < 0
        · exact Or.inr (Or.inl ⟨rfl, h0⟩)
        · exact Or.inr (Or.inr ⟨rfl, by omega, by omega⟩)
    clear e1 e2 hp h hf hff hM
    rcases hcase with rfl | ⟨rfl, h0⟩ | ⟨rfl, h0, h1⟩
    · go_enter Try.func62, Try.ntmps62
      go_wp2_with fail
      (with_reducible refine (ris_any gr ga cap X M _ _ _ HP.out HH.out).mono ?_)
      rintro e w' ⟨rfl, rfl⟩
      go_wp2
      go_ret
      exact ⟨rfl, HH.out, Only.refl _ _⟩
    · go_enter Try.func62, Try.ntmps62
      go_wp2_with fail
      (with_reducible refine (ris_any gr ga cap X M _ _ _ HP.out HH.out).mono ?_)
      rintro e w' ⟨rfl, rfl⟩
      go_wp2
      go_ret
      exact ⟨rfl, HH.out, Only.refl _ _⟩
    · go_enter Try.func62, Try.ntmps62
      go_wp2_with fail
      (with_reducible refine (ris_any gr ga cap X M _ _ _ HP.out HH.out).mono ?_)
      rintro e w' ⟨rfl, rfl⟩
      go_wp2
      go_ret
      exact ⟨rfl, HH.out, Only.refl _ _⟩
end Go.Proofs.Ythgmlopkcgkjlaa

/-
  Contract of the walk over the reference's Do. Conditions: the record holds the disk, the picks lie elsewhere.
-/
namespace Go.Proofs.Ythgmlopkcgkjlaa
open Go.RowKit

/-- An operation of a script. -/
structure OpM where
  kind : Int
  i : Int
  at_ : Int
  text : ByteArray
  picks : List Int
def DM.doS (M : DM) (x : OpM) : List UInt8 := if x.kind = 1 then M.readS x.i else []
def DM.doE (M : DM) (x : OpM) : Int := if x.kind = 1 then M.readE x.i else if x.kind = 2 then M.writeE x.i x.at_ x.text.data.toList else if x.kind = 3 then M.flushE else if x.kind = 6 then M.rotE x.i x.at_ else 0
def DM.doM (M : DM) (x : OpM) : DM := if x.kind = 2 then M.write x.i x.at_ x.text.data.toList else if x.kind = 3 then M.flush else if x.kind = 4 then M.tripTo x.i else if x.kind = 5 then M.mount x.picks else if x.kind = 6 then M.rot x.i x.at_ else M
structure inI (x : Int) : Prop where
  lo : -9223372036854775808 ≤ x
  hi : x ≤ 9223372036854775807
set_option maxRecDepth 100000 in
set_option maxHeartbeats 3200000 in
theorem rdo_any (gr ga cap : Nat) (X : List Value) (M : DM) (kind i at_ : Int) (tx : ByteArray) (A : Option Addr) (pc : Nat) (picks : List Int) (w : World) (hM : M.ok) (hi : inI i) (hat : inI at_) (htx : tx.size ≤ 1000000) (hpl : picks.length ≤ 1000000) (h : RRep w gr ga cap X M) (hpk : ∀ w', Only [gr, ga] w w' → PkAt w' A picks) :
    Calls Try.prog 19 #[.pointer (some ⟨gr, 0, none⟩), .agg #[.int .i64 kind, .int .i64 i, .int .i64 at_, .string tx, .slice A picks.length pc]] w fun e w' => e = .returned (.tuple #[S8 (M.doS ⟨kind, i, at_, tx, picks⟩), .int .i64 (M.doE ⟨kind, i, at_, tx, picks⟩)]) ∧ RRep w' gr ga cap X (M.doM ⟨kind, i, at_, tx, picks⟩) ∧ Only [gr, ga] w w' := by
  have HH := Lib.hid h
  have HM := Lib.hid hM
  have HI := Lib.hid hi
  have HA := Lib.hid hat
  have HPK := Lib.hid hpk
  obtain ⟨q, hq⟩ : ∃ q, Hid (picks.length = q) := ⟨_, rfl⟩
  rw [hq.out]
  rw [hq.out] at hpl
  clear h hM hi hat
  by_cases hk : kind = 1
  · subst hk
    clear hpk
    go_enter Try.func19, Try.ntmps19
    go_wp2_with (with_reducible refine wpList_box (o := ⟨some 3, .box 34 (.tmp 1), _, _, _, _⟩) ?g2 34 (.tmp 1) ?o2 (.agg #[.int .i64 1, .int .i64 i, .int .i64 at_, .string tx, .slice A q pc]) [.int .i64 1, .int .i64 i, .int .i64 at_, .string tx, .slice A q pc] ?x2 ?c2 ?_)
    try (case g2 => rfl)
    try (case o2 => rfl)
    try (case x2 => rfl)
    try (case c2 => rfl)
    intro gb w1 hgb hs1 hb1 hB1
    have hbel : Below w.heap.size w w1 := hb1.mono (Nat.le_of_eq hgb.out.symm)
    have k0 := hB1.cell (k := 0) rfl
    have k1 := hB1.cell (k := 1) rfl
    have k2 := hB1.cell (k := 2) rfl
    have k3 := hB1.cell (k := 3) rfl
    have k4 := hB1.cell (k := 4) rfl
    have h1 := HH.out.next hbel
    have ho1 : Only [gr, ga] w w1 := Only.of_below hbel
    clear hb1 hB1 hgb hs1
    go_wp2_with fail
    (with_reducible refine (rread_any gr ga cap X M _ _ _ _ rfl rfl h1).mono ?_)
    rintro e w2 ⟨rfl, rfl⟩
    have hoz := ho1
    have h2 := h1
    clear k0 k1 k2 k3 k4 h1 ho1
    go_wp2
    go_ret2
    exact ⟨rfl, h2, hoz⟩
  · have hn1 : (kind == 1) = false := beq_eq_false_iff_ne.2 hk
    have hm1 := hk
    by_cases hk : kind = 2
    · subst hk
      clear hpk
      go_enter Try.func19, Try.ntmps19
      go_wp2_with (with_reducible refine wpList_box (o := ⟨some 3, .box 34 (.tmp 1), _, _, _, _⟩) ?g2 34 (.tmp 1) ?o2 (.agg #[.int .i64 2, .int .i64 i, .int .i64 at_, .string tx, .slice A q pc]) [.int .i64 2, .int .i64 i, .int .i64 at_, .string tx, .slice A q pc] ?x2 ?c2 ?_)
      try (case g2 => rfl)
      try (case o2 => rfl)
      try (case x2 => rfl)
      try (case c2 => rfl)
      intro gb w1 hgb hs1 hb1 hB1
      have hbel : Below w.heap.size w w1 := hb1.mono (Nat.le_of_eq hgb.out.symm)
      have k0 := hB1.cell (k := 0) rfl
      have k1 := hB1.cell (k := 1) rfl
      have k2 := hB1.cell (k := 2) rfl
      have k3 := hB1.cell (k := 3) rfl
      have k4 := hB1.cell (k := 4) rfl
      have h1 := HH.out.next hbel
      have ho1 : Only [gr, ga] w w1 := Only.of_below hbel
      clear hb1 hB1 hgb hs1
      go_wp2_with fail
      (with_reducible refine (rwrite_any gr ga cap X M _ _ _ _ HM.out htx HA.out.lo HA.out.hi h1).mono ?_)
      rintro e w2 ⟨rfl, h2, ho2⟩
      have hoz := ho1.trans ho2
      clear k0 k1 k2 k3 k4 h1 ho1
      go_wp2
      go_ret2
      exact ⟨rfl, h2, hoz⟩
    · have hn2 : (kind == 2) = false := beq_eq_false_iff_ne.2 hk
      have hm2 := hk
      by_cases hk : kind = 3
      · subst hk
        clear hpk
        go_enter Try.func19, Try.ntmps19
        go_wp2_with (with_reducible refine wpList_box (o := ⟨some 3, .box 34 (.tmp 1), _, _, _, _⟩) ?g2 34 (.tmp 1) ?o2 (.agg #[.int .i64 3, .int .i64 i, .int .i64 at_, .string tx, .slice A q pc]) [.int .i64 3, .int .i64 i, .int .i64 at_, .string tx, .slice A q pc] ?x2 ?c2 ?_)
        try (case g2 => rfl)
        try (case o2 => rfl)
        try (case x2 => rfl)
        try (case c2 => rfl)
        intro gb w1 hgb hs1 hb1 hB1
        have hbel : Below w.heap.size w w1 := hb1.mono (Nat.le_of_eq hgb.out.symm)
        have k0 := hB1.cell (k := 0) rfl
        have k1 := hB1.cell (k := 1) rfl
        have k2 := hB1.cell (k := 2) rfl
        have k3 := hB1.cell (k := 3) rfl
        have k4 := hB1.cell (k := 4) rfl
        have h1 := HH.out.next hbel
        have ho1 : Only [gr, ga] w w1 := Only.of_below hbel
        clear hb1 hB1 hgb hs1
        go_wp2_with fail
        (with_reducible refine (rflush_any gr ga cap X M _ HM.out h1).mono ?_)
        rintro e w2 ⟨rfl, h2, ho2⟩
        have hoz := ho1.trans ho2
        clear k0 k1 k2 k3 k4 h1 ho1
        go_wp2
        go_ret2
        exact ⟨rfl, h2, hoz⟩
      · have hn3 : (kind == 3) = false := beq_eq_false_iff_ne.2 hk
        have hm3 := hk
        by_cases hk : kind = 4
        · subst hk
          clear hpk
          go_enter Try.func19, Try.ntmps19
          go_wp2_with (with_reducible refine wpList_box (o := ⟨some 3, .box 34 (.tmp 1), _, _, _, _⟩) ?g2 34 (.tmp 1) ?o2 (.agg #[.int .i64 4, .int .i64 i, .int .i64 at_, .string tx, .slice A q pc]) [.int .i64 4, .int .i64 i, .int .i64 at_, .string tx, .slice A q pc] ?x2 ?c2 ?_)
          try (case g2 => rfl)
          try (case o2 => rfl)
          try (case x2 => rfl)
          try (case c2 => rfl)
          intro gb w1 hgb hs1 hb1 hB1
          have hbel : Below w.heap.size w w1 := hb1.mono (Nat.le_of_eq hgb.out.symm)
          have k0 := hB1.cell (k := 0) rfl
          have k1 := hB1.cell (k := 1) rfl
          have k2 := hB1.cell (k := 2) rfl
          have k3 := hB1.cell (k := 3) rfl
          have k4 := hB1.cell (k := 4) rfl
          have h1 := HH.out.next hbel
          have ho1 : Only [gr, ga] w w1 := Only.of_below hbel
          clear hb1 hB1 hgb hs1
          go_wp2_with fail
          (with_reducible refine (rtrip_any gr ga cap X M _ _ HI.out.lo HI.out.hi h1).mono ?_)
          rintro e w2 ⟨rfl, h2, ho2⟩
          have hoz := ho1.trans (ho2.mono (by simp))
          clear k0 k1 k2 k3 k4 h1 ho1
          go_wp2
          go_ret2
          exact ⟨rfl, h2, hoz⟩
        · have hn4 : (kind == 4) = false := beq_eq_false_iff_ne.2 hk
          have hm4 := hk
          by_cases hk : kind = 5
          · subst hk
            clear hpk
            go_enter Try.func19, Try.ntmps19
            go_wp2_with (with_reducible refine wpList_box (o := ⟨some 3, .box 34 (.tmp 1), _, _, _, _⟩) ?g2 34 (.tmp 1) ?o2 (.agg #[.int .i64 5, .int .i64 i, .int .i64 at_, .string tx, .slice A q pc]) [.int .i64 5, .int .i64 i, .int .i64 at_, .string tx, .slice A q pc] ?x2 ?c2 ?_)
            try (case g2 => rfl)
            try (case o2 => rfl)
            try (case x2 => rfl)
            try (case c2 => rfl)
            intro gb w1 hgb hs1 hb1 hB1
            have hbel : Below w.heap.size w w1 := hb1.mono (Nat.le_of_eq hgb.out.symm)
            have k0 := hB1.cell (k := 0) rfl
            have k1 := hB1.cell (k := 1) rfl
            have k2 := hB1.cell (k := 2) rfl
            have k3 := hB1.cell (k := 3) rfl
            have k4 := hB1.cell (k := 4) rfl
            have h1 := HH.out.next hbel
            have ho1 : Only [gr, ga] w w1 := Only.of_below hbel
            clear hb1 hB1 hgb hs1
            go_wp2_with fail
            rw [← hq.out]
            (with_reducible refine (rmount_any gr ga cap X M A pc picks _ HM.out h1 (by rw [hq.out]; exact hpl) (fun w' ho => HPK.out w' (ho1.trans ho))).mono ?_)
            rintro e w2 ⟨rfl, h2, ho2⟩
            have hoz := ho1.trans ho2
            clear k0 k1 k2 k3 k4 h1 ho1
            go_wp2
            go_ret2
            exact ⟨rfl, h2, hoz⟩
          · have hn5 : (kind == 5) = false := beq_eq_false_iff_ne.2 hk
            have hm5 := hk
            by_cases hk : kind = 6
            · subst hk
              clear hpk
              go_enter Try.func19, Try.ntmps19
              go_wp2_with (with_reducible refine wpList_box (o := ⟨some 3, .box 34 (.tmp 1), _, _, _, _⟩) ?g2 34 (.tmp 1) ?o2 (.agg #[.int .i64 6, .int .i64 i, .int .i64 at_, .string tx, .slice A q pc]) [.int .i64 6, .int .i64 i, .int .i64 at_, .string tx, .slice A q pc] ?x2 ?c2 ?_)
              try (case g2 => rfl)
              try (case o2 => rfl)
              try (case x2 => rfl)
              try (case c2 => rfl)
              intro gb w1 hgb hs1 hb1 hB1
              have hbel : Below w.heap.size w w1 := hb1.mono (Nat.le_of_eq hgb.out.symm)
              have k0 := hB1.cell (k := 0) rfl
              have k1 := hB1.cell (k := 1) rfl
              have k2 := hB1.cell (k := 2) rfl
              have k3 := hB1.cell (k := 3) rfl
              have k4 := hB1.cell (k := 4) rfl
              have h1 := HH.out.next hbel
              have ho1 : Only [gr, ga] w w1 := Only.of_below hbel
              clear hb1 hB1 hgb hs1
              go_wp2_with fail
              (with_reducible refine (rrot_any gr ga cap X M _ _ _ HM.out h1).mono ?_)
              rintro e w2 ⟨rfl, h2, ho2⟩
              have hoz := ho1.trans ho2
              clear k0 k1 k2 k3 k4 h1 ho1
              go_wp2
              go_ret2
              exact ⟨rfl, h2, hoz⟩
            · have hn6 : (kind == 6) = false := beq_eq_false_iff_ne.2 hk
              have hm6 := hk
              have es : M.doS ⟨kind, i, at_, tx, picks⟩ = [] := by unfold DM.doS; rw [if_neg hm1]
              have ee : M.doE ⟨kind, i, at_, tx, picks⟩ = 0 := by unfold DM.doE; rw [if_neg hm1, if_neg hm2, if_neg hm3, if_neg hm6]
              have em : M.doM ⟨kind, i, at_, tx, picks⟩ = M := by unfold DM.doM; rw [if_neg hm2, if_neg hm3, if_neg hm4, if_neg hm5, if_neg hm6]
              rw [es, ee, em]
              clear hk hm1 hm2 hm3 hm4 hm5 hm6 hpk es ee em
              go_enter Try.func19, Try.ntmps19
              go_wp2_with (with_reducible refine wpList_box (o := ⟨some 3, .box 34 (.tmp 1), _, _, _, _⟩) ?g2 34 (.tmp 1) ?o2 (.agg #[.int .i64 kind, .int .i64 i, .int .i64 at_, .string tx, .slice A q pc]) [.int .i64 kind, .int .i64 i, .int .i64 at_, .string tx, .slice A q pc] ?x2 ?c2 ?_)
              try (case g2 => rfl)
              try (case o2 => rfl)
              try (case x2 => rfl)
              try (case c2 => rfl)
              intro gb w1 hgb hs1 hb1 hB1
              have hbel : Below w.heap.size w w1 := hb1.mono (Nat.le_of_eq hgb.out.symm)
              have k0 := hB1.cell (k := 0) rfl
              have k1 := hB1.cell (k := 1) rfl
              have k2 := hB1.cell (k := 2) rfl
              have k3 := hB1.cell (k := 3) rfl
              have k4 := hB1.cell (k := 4) rfl
              have h1 := HH.out.next hbel
              have ho1 : Only [gr, ga] w w1 := Only.of_below hbel
              clear hb1 hB1 hgb hs1
              clear k1 k2 k3 k4
              go_wp2
              go_ret2
              exact ⟨rfl, h1, ho1⟩
end Go.Proofs.Ythgmlopkcgkjlaa
