/-
  Contracts of the functions that the statement calls, part 14 of 25 (merged texts: Ic). Conditions: as the head of each part says.
-/
import Derived.Test.YtkkgfdfjgfigcaaDoorGL
import Derived.Test.YtkkgfdfjgfigcaaDoorGI
import Derived.Test.YtkkgfdfjgfigcaaDoorGM
import Derived.Shelf.Small.Bits
import Derived.OwnWalkIn
import Derived.TacticsInMore
import Derived.LoopNIn
import Derived.LoopIn

/-
  Contract of the walk over the iterator of bits.ones: it visits the bits that a head has. Conditions: the head lies there.
-/
namespace Go.Proofs.YtkkgfdfjgfigcaaDoor
set_option linter.unusedVariables false
set_option linter.unusedSimpArgs false
open Go.RowKit Go.Shelf

attribute [local go_sem] Oper.semAt_some
theorem roundDone_one {α : Type} {F : Fence} {n l : Nat} {P : Program} {fn : Nat} {tmps : Array Value} {assign body : Code} {D : World → Nat → Prop} {J Jx : List α → World → Prop} {s : List α} {W : World} (h : RoundIn F n P l fn tmps assign body W (RoundDone l D J Jx s W)) :
    RoundIn F n P l fn tmps assign body W fun e W' => ∃ b : Bool, e = .returned (.bool b) ∧ ((b = true ∧ J s W') ∨ (b = false ∧ Jx s W')) ∧ OnlyD (fun g => g = l ∨ D W g) W W' ∧ (∀ g, D W' g → D W g ∨ W.heap.size ≤ g) ∧ Real D W' := by
  refine h.mono ?_
  rintro e W' (⟨rfl, h1, h2⟩ | ⟨rfl, h1, h2⟩)
  · exact ⟨true, rfl, .inl ⟨rfl, h1⟩, h2⟩
  · exact ⟨false, rfl, .inr ⟨rfl, h1⟩, h2⟩
/-- Laws of a walk over variables, inside a fence. -/
theorem wpListIn_put {F : Fence} {n : Nat} {P : Program} {ops : Array Oper} {rest : List Oper} {o : Oper} {a : Act} {w : World} {Q : Exit → Act → World → Prop} (hgd : o.guard = none) (ty : TypeId) (x y : Operand) (ho : o.op = .store ty x y)
    (g k : Nat) (hx : a.eval x = .pointer (some ⟨g, k, none⟩)) (v : Value) (hy : a.eval y = v) {t : TypeId} {l : List Value} (hb : Blk w g t l) (cs : List Value) (hv : v.cells = cs.toArray)
    (hi : (P.info? ty).map (·.size) = some cs.length) (hl : k + cs.length ≤ l.length) (h1 : ∀ u ∈ cs, u.oneCell' = true)
    (h : ∀ w', Upd g w w' → Blk w' g t (splice l k cs) → wpListIn F n P ops Q rest (a.put o.dst undef) w') : wpListIn F n P ops Q (o :: rest) a w := by
  refine wpListIn_plain hgd fun K hK => ?_
  unfold Oper.wpIn
  refine ⟨fun f hf => ?_, ?_⟩
  · simp [Oper.about, ho] at hf
  · have hne : ∀ c, o.op ≠ .defer c := fun c h => by rw [ho] at h; cases h
    rw [Oper.semAt_eq _ _ _ hne]
    unfold execOp
    simp only [ho, hx, hy, Instr.storeAt, Instr.sureAddr, Sem.run_bind, Sem.run_pure, Result.andThen_ok, run_put w g k t ty l v cs hv hb hi hl h1]
    exact hK _ _ (h _ (upd_setRow w g _) (blk_setRow hb _))
theorem wpListIn_get {F : Fence} {n : Nat} {P : Program} {ops : Array Oper} {rest : List Oper} {o : Oper} {a : Act} {w : World} {Q : Exit → Act → World → Prop} (hgd : o.guard = none) (ty : TypeId) (x : Operand) (ho : o.op = .load ty x)
    (g k : Nat) (hx : a.eval x = .pointer (some ⟨g, k, none⟩)) {t : TypeId} {l : List Value} (hb : Blk w g t l) (cs : List Value) (hcs : (l.drop k).take cs.length = cs) (d : TypeDesc)
    (hu : P.underlying ty = some d) (hd : d.isRow = true) (hi : (P.info? ty).map (·.size) = some cs.length)
    (h : wpListIn F n P ops Q rest (a.put o.dst (.agg cs.toArray)) w) : wpListIn F n P ops Q (o :: rest) a w := by
  refine wpListIn_plain hgd fun K hK => ?_
  unfold Oper.wpIn
  refine ⟨fun f hf => ?_, ?_⟩
  · simp [Oper.about, ho] at hf
  · have hne : ∀ c, o.op ≠ .defer c := fun c h => by rw [ho] at h; cases h
    rw [Oper.semAt_eq _ _ _ hne]
    unfold execOp
    simp only [ho, hx, Instr.loadAt, Instr.sureAddr, Sem.run_bind, Sem.run_pure, Result.andThen_ok, run_get w g k t ty l cs hb hcs d hu hd hi]
    exact hK _ _ h
theorem wpListIn_idx {F : Fence} {n : Nat} {P : Program} {ops : Array Oper} {rest : List Oper} {o : Oper} {a : Act} {w : World} {Q : Exit → Act → World → Prop} (hgd : o.guard = none) (ty : TypeId) (x ix : Operand) (ho : o.op = .index ty x ix)
    (e : TypeId) (len k : Nat) (l : List Value) (v : Value) (d : TypeDesc) (hx : a.eval x = .agg l.toArray) (hi : a.eval ix = .int .i64 (k : Int)) (hu : P.underlying ty = some (.array len e)) (hs : (P.info? e).map (·.size) = some 1) (he : P.underlying e = some d) (hd : d.isRow = false)
    (hn : k < len) (hl : l[k]? = some v) (h : wpListIn F n P ops Q rest (a.put o.dst v) w) : wpListIn F n P ops Q (o :: rest) a w := by
  refine wpListIn_plain hgd fun K hK => ?_
  unfold Oper.wpIn
  refine ⟨fun f hf => ?_, ?_⟩
  · simp [Oper.about, ho] at hf
  · have hne : ∀ c, o.op ≠ .defer c := fun c h => by rw [ho] at h; cases h
    rw [Oper.semAt_eq _ _ _ hne]
    unfold execOp
    simp [ho, hx, hi, run_index_row w ty e len k l v d hu hs he hd hn hl]
    exact hK _ _ h
theorem wpListIn_alloc {F : Fence} {n : Nat} {P : Program} {ops : Array Oper} {rest : List Oper} {o : Oper} {a : Act} {w : World} {Q : Exit → Act → World → Prop} (hgd : o.guard = none) (ty : TypeId) (ho : o.op = .alloc ty) (z : Value) (cs : List Value)
    (hz : (P.info? ty).map (·.zero) = some (some z)) (hc : z.cells = cs.toArray)
    (h : ∀ g w', Hid (g = w.heap.size) → Hid (w'.heap.size = g + 1) → Below g w w' → Blk w' g ty cs → wpListIn F n P ops Q rest (a.put o.dst (.pointer (some ⟨g, 0, none⟩))) w') : wpListIn F n P ops Q (o :: rest) a w := by
  refine wpListIn_plain hgd fun K hK => ?_
  cases hq : P.info? ty with
  | none => simp [hq] at hz
  | some i =>
    have hz' : i.zero = some z := by simpa [hq] using hz
    unfold Oper.wpIn
    refine ⟨fun f hf => ?_, ?_⟩
    · simp [Oper.about, ho] at hf
    · have hne : ∀ c, o.op ≠ .defer c := fun c h => by rw [ho] at h; cases h
      rw [Oper.semAt_eq _ _ _ hne]
      unfold execOp
      simp [ho, Instr.alloc, newVar, newRow, zeroValue, typeInfo, hq, hz', hc]
      exact hK _ _ (h _ _ rfl (by show (w.alloc _).heap.size = _; simp) (below_new w _) (blk_new w ty cs))
theorem wpListIn_box {F : Fence} {n : Nat} {P : Program} {ops : Array Oper} {rest : List Oper} {o : Oper} {a : Act} {w : World} {Q : Exit → Act → World → Prop} (hgd : o.guard = none) (ty : TypeId) (x : Operand) (ho : o.op = .box ty x) (v : Value) (cs : List Value)
    (hx : a.eval x = v) (hc : v.cells = cs.toArray)
    (h : ∀ g w', Hid (g = w.heap.size) → Hid (w'.heap.size = g + 1) → Below g w w' → Blk w' g ty cs → wpListIn F n P ops Q rest (a.put o.dst (.pointer (some ⟨g, 0, none⟩))) w') : wpListIn F n P ops Q (o :: rest) a w := by
  refine wpListIn_plain hgd fun K hK => ?_
  unfold Oper.wpIn
  refine ⟨fun f hf => ?_, ?_⟩
  · simp [Oper.about, ho] at hf
  · have hne : ∀ c, o.op ≠ .defer c := fun c h => by rw [ho] at h; cases h
    rw [Oper.semAt_eq _ _ _ hne]
    unfold execOp
    simp [ho, hx, Instr.box, newVar, newRow, hc]
    exact hK _ _ (h _ _ rfl (by show (w.alloc _).heap.size = _; simp) (below_new w _) (blk_new w ty cs))
theorem cv16 (x : Nat) (h : x < 65536) (w : World) : (convert 3 184 (.int .i64 (x : Int))).run Tryd.prog w = .ok (.int .u16 (x : Int)) w := by
  have h1 : IntKind.u16.wrap (x : Int) = (x : Int) := by rw [IntKind.wrap_u16]; omega
  have hk : Tryd.prog.intKind 184 = .u16 := by kernel_rfl
  have h2 := run_convert_int (P := Tryd.prog) (w := w) 3 184 .i64 (x : Int) (by rw [Tryd.underlying3]; rfl) (by rw [hk]; exact Tryd.underlying184)
  rw [hk, h1] at h2
  exact h2
theorem lz16_any (x : Nat) (w : World) (h : x < 65536) : Calls Tryd.prog 239 #[.int .u16 (x : Int)] w fun e w' => e = .returned (.int .i64 (16 - (Lib.bitLen x : Int))) ∧ w' = w := by
  have := Any.bits_LeadingZeros16 Tryd.lz16A (x : Int) w (by omega) (by omega)
  rw [Int.toNat_natCast] at this
  exact this
def natOf : Value → Nat
  | .int _ n => n.toNat
  | _ => 0
theorem ones_next {f : Nat → Bool} {i s : Nat} (h : i ≤ s) (hs : f s = true) (hn : ∀ j, i ≤ j → j < s → f j = false) : onesTo f (s + 1) = onesTo f i ++ [s] := by
  rw [onesTo_succ, onesTo_none h hn, if_pos hs]
theorem word_less {f : Nat → Bool} {i k s : Nat} (hk : s / 16 = k) (h2 : i ≤ s) (hs : f s = true) (hn : ∀ j, i ≤ j → j < s → f j = false) : word (from_ f (s + 1)) k < word (from_ f i) k := by
  have e := word_next hk h2 hn
  have hle : word (from_ f (s + 1)) k ≤ word (from_ f i) k := by rw [← e]; exact Nat.and_le_left
  rcases Nat.lt_or_ge (word (from_ f (s + 1)) k) (word (from_ f i) k) with h | h
  · exact h
  · have heq : word (from_ f (s + 1)) k = word (from_ f i) k := by omega
    have := word_inj heq (i := s) hk
    unfold from_ at this
    rw [decide_eq_false (show ¬ s + 1 ≤ s by omega), decide_eq_true h2, hs] at this
    cases this
/-- Between two words. -/
def OnOut (f : Nat → Bool) (J : List Nat → World → Prop) (B : Nat) (kv : Value) (wr : World) : Prop :=
  ∃ k : Nat, k ≤ 10 ∧ kv = .int .i64 (k : Int) ∧ J (onesTo f (16 * k)) wr ∧ B ≤ wr.heap.size
/-- Within a word. -/
def OnIn (f : Nat → Bool) (k : Nat) (J : List Nat → World → Prop) (B : Nat) (rv : Value) (wr : World) : Prop :=
  ∃ i x : Nat, 16 * k ≤ i ∧ i ≤ 16 * k + 16 ∧ word (from_ f i) k = x ∧ x < 65536 ∧ rv = .int .u16 (x : Int) ∧ J (onesTo f i) wr ∧ B ≤ wr.heap.size
set_option maxRecDepth 1000000 in
set_option maxHeartbeats 3200000 in
theorem ones1_in (n l gh : Nat) (f : Nat → Bool) (D : World → Nat → Prop) (W1 : World) (hB : Blk W1 gh 23 (H f)) (hR : Real D W1) (hS : StaysD D W1.heap.size) :
    Visits n Tryd.prog 238 #[.pointer (some ⟨gh, 0, none⟩)] encB (onesTo f 160) D l W1 := by
  refine visits_real hR hS ?_
  intro J Jx hJ hJx hY _ h0
  clear hR hS
  obtain ⟨B, hBs⟩ : ∃ B, W1.heap.size = B := ⟨_, rfl⟩
  have J1 : J (onesTo f (16 * 0)) W1 := h0
  have hB1 : B ≤ W1.heap.size := Nat.le_of_eq hBs.symm
  rw [hBs] at hJ hJx hY
  have HJ := Lib.hid hJ
  have HY := Lib.hid hY
  clear hJ hJx hY hBs
  refine callsIn_of_wp Tryd.func238 rfl trivial ?_ rfl
  simp only [Tryd.ntmps238, List.size_toArray, List.length_cons, List.length_nil, Nat.reduceAdd, Nat.reduceSub, Array.replicate_succ, Array.replicate_zero, List.push_toArray, List.append_toArray, List.nil_append, List.cons_append]
  gi_wp2_with (with_reducible refine wpListIn_get (o := ⟨some 7, .load 23 (.tmp 1), _, _, _, _⟩) (by with_unfolding_all rfl) 23 (.tmp 1) (by with_unfolding_all rfl) gh 0 (by with_unfolding_all rfl) hB (H f) (cs_all _) _ (by exact Tryd.underlying23) (by with_unfolding_all rfl) (by rw [H_length]; exact Tryd.szH) ?_)
  clear hB
  gi_wp2
  gi_loopw [8] (fun kv wr => OnOut f J B kv wr) (fun kv _ => 10 - natOf kv)
  case atStart => exact ⟨0, Nat.zero_le _, rfl, J1, hB1⟩
  case round =>
    clear J1 hB1 h0
    obtain ⟨k, hk, rfl, hJk, hsz⟩ := hrel
    by_cases hlt : k < 10
    · obtain ⟨x, hx⟩ : ∃ x, word f k = x := ⟨_, rfl⟩
      have hx6 := word_lt f k
      have hHk := H_get f hlt
      rw [hx] at hx6 hHk
      have HHk := Lib.hid hHk
      have hwx : word (from_ f (16 * k)) k = x := by rw [word_from]; exact hx
      have hin : OnIn f k J B (.int .u16 (x : Int)) wr := ⟨16 * k, x, Nat.le_refl _, by omega, hwx, hx6, rfl, hJk, hsz⟩
      clear hHk hx hwx hJk hsz
      have hcv := cv16 x hx6
      obtain ⟨wo, hwo⟩ : ∃ wo : World, wo = wr := ⟨_, rfl⟩
      rw [← hwo] at hin ⊢
      clear hwo
      clear hx6
      gi_wp2_with (with_reducible refine wpListIn_idx (o := ⟨some 11, .index 23 (.tmp 7) (.tmp 8), _, _, _, _⟩) (by with_unfolding_all rfl) 23 (.tmp 7) (.tmp 8) (by with_unfolding_all rfl) 3 10 k (H f) (.int .i64 (x : Int)) (.int .i64) (by with_unfolding_all rfl) (by with_unfolding_all rfl) (by with_unfolding_all exact Tryd.underlying23) (by with_unfolding_all exact Tryd.szI) (by with_unfolding_all exact Tryd.underlying3) (by with_unfolding_all rfl) hlt HHk.out ?_)
      clear hcv HHk
      gi_loopw [5] (fun rv wr => OnIn f k J B rv wr) (fun rv _ => natOf rv)
      case atStart => exact hin
      case round =>
        clear hin
        obtain ⟨i, y, hi1, hi2, hy, hy6, rfl, hJi, hsz⟩ := hrel
        rcases first_one f i (16 * k + 16) with hn | ⟨s, s1, s2, s3, s4⟩
        · have hy0 : y = 0 := by rw [← hy]; exact word_empty hn
          subst hy0
          have hone : onesTo f (16 * (k + 1)) = onesTo f i := by rw [show 16 * (k + 1) = 16 * k + 16 by omega]; exact onesTo_none hi2 hn
          have hrelN : OnOut f J B (.int .i64 ((k : Int) + 1)) wr := ⟨k + 1, by omega, by go_num, by rw [hone]; exact hJi, hsz⟩
          have hmeasN : 10 - natOf (.int .i64 ((k : Int) + 1)) < 10 - natOf (.int .i64 (k : Int)) := by
            show 10 - ((k : Int) + 1).toNat < 10 - (k : Int).toNat
            omega
          clear hn hJi hone hy6 hy
          gi_wp2
          exact ⟨hrelN, hmeasN⟩
        · obtain ⟨t, ht⟩ : ∃ t, s % 16 = t := ⟨_, rfl⟩
          obtain ⟨z, hz⟩ : ∃ z, word (from_ f (s + 1)) k = z := ⟨_, rfl⟩
          have hsk : s / 16 = k := by omega
          have hlen := word_len hi1 s1 s2 s3 s4
          have hnx := word_next hsk s1 s4
          have hls := word_less hsk s1 s3 s4
          have hz6 := word_lt (from_ f (s + 1)) k
          rw [hz] at hnx hls hz6
          rw [hy] at hlen hnx hls
          rw [ht] at hlen hnx
          obtain ⟨V, hV⟩ : ∃ V : Nat, 2 ^ (15 - t) = V := ⟨_, rfl⟩
          have hV6 : V < 65536 := by rw [← hV]; exact Nat.lt_of_le_of_lt (Nat.pow_le_pow_right (by decide) (by omega : 15 - t ≤ 15)) (by decide)
          have hsh : (32768 : Int) / 2 ^ t = (V : Int) := by
            rw [← hV]
            have h1 : (32768 : Nat) = 2 ^ (15 - t) * 2 ^ t := by rw [← Nat.pow_add, show 15 - t + t = 15 by omega]
            have h2 : (32768 : Int) = ((2 ^ (15 - t) : Nat) : Int) * ((2 : Int) ^ t) := by
              have := congrArg (fun n : Nat => (n : Int)) h1
              simp only [Int.natCast_mul, Int.natCast_pow] at this
              simpa using this
            rw [h2, Int.mul_ediv_cancel _ (Int.ne_of_gt (Int.pow_pos (by decide)))]
          rw [hV] at hnx
          have han : bits .andNot .u16 (y : Int) (V : Int) = (z : Int) := by rw [andn16 y V hy6 hV6, hnx]
          have hcv := cv16 V hV6
          have hlz : (16 - (Lib.bitLen y : Int)) = (t : Int) := by rw [hlen]; omega
          have hone := ones_next s1 s3 s4
          obtain ⟨fn, tmps, assign, body, hyd, hRd⟩ := HY.out (onesTo f i) s wr hJi hsz (by rw [← hone]; exact onesTo_prefix f (by omega))
          rw [← hone] at hRd
          dsimp only [encB] at hyd
          rw [hsk, ht, hV] at hyd
          have hpre : onesTo f (s + 1) <+: onesTo f 160 := onesTo_prefix f (by omega)
          have hy0 : y ≠ 0 := by omega
          have hyb : ((y : Int) != 0) = true := bne_iff_ne.2 (by omega)
          have hrelN : ∀ W, J (onesTo f (s + 1)) W → B ≤ W.heap.size → OnIn f k J B (.int .u16 (z : Int)) W := fun W hJ hs => ⟨s + 1, z, by omega, by omega, hz, hz6, rfl, hJ, hs⟩
          have hmeasN : natOf (.int .u16 (z : Int)) < natOf (.int .u16 (y : Int)) := by
            show (z : Int).toNat < (y : Int).toNat
            omega
          have ht64 : (t : Int) ≤ 64 := by omega
          have ht0 : (0 : Int) ≤ (t : Int) := by omega
          have HZ := Lib.hid hrelN
          have HM := Lib.hid hmeasN
          have HY6 := Lib.hid hy6
          have HP := Lib.hid hpre
          have HSZ := Lib.hid hsz
          have HLZ := Lib.hid hlz
          clear hnx hls hz6 hlen hV hrelN hmeasN hy6 hpre hz hy hone hy0 hJi hsz hlz s1 s2 s3 s4 hsk ht hV6 hi1 hi2
          gi_wp2_with fail
          refine ⟨trivial, fun h => (by cases h), ((callsIn_wide).2 (lz16_any y _ HY6.out)).mono ?_⟩
          rintro e wq ⟨rfl, hwq⟩
          subst hwq
          rw [HLZ.out]
          gi_wp2_with fail
          refine ⟨fun h => (by cases h), (roundDone_one hRd).mono ?_⟩
          rintro e W3 ⟨bb, rfl, hbb, hO3, _⟩
          have hsz3 := Nat.le_trans HSZ.out hO3.size
          clear hyd hRd hO3 hyb hsh
          gi_wp2
          · rename_i hb
            refine bodyPost_ret (results_none rfl _ _ _) rfl ?_
            rcases hbb with ⟨hb1, _⟩ | ⟨_, hx⟩
            · exact absurd hb1 (by simpa using hb)
            · exact ⟨⟨_, rfl⟩, .inr ⟨_, HP.out, hx⟩⟩
          · rename_i hb
            rcases hbb with ⟨_, hJ3⟩ | ⟨hb1, _⟩
            · exact ⟨HZ.out _ hJ3 hsz3, HM.out⟩
            · exact absurd hb (by rw [hb1]; simp)
    · obtain rfl : k = 10 := by omega
      have hJ10 : J (onesTo f 160) wr := hJk
      clear hJk
      gi_wp2
      go_end0
      exact ⟨⟨_, rfl⟩, .inl hJ10⟩
set_option maxRecDepth 100000 in
set_option maxHeartbeats 1600000 in
theorem ones_any (f : Nat → Bool) (w : World) :
    Calls Tryd.prog 206 #[.agg (H f).toArray] w fun e w' => ∃ gh, e = .returned (.func (.func 238) #[] #[.pointer (some ⟨gh, 0, none⟩)]) ∧ Blk w' gh 23 (H f) ∧ Below w.heap.size w w' ∧ w.heap.size ≤ gh := by
  go_enter Tryd.func206, Tryd.ntmps206
  go_wp2_with (with_reducible refine wpList_box (o := ⟨some 1, .box 23 (.tmp 0), _, _, _, _⟩) ?g1 23 (.tmp 0) ?o1 (.agg (H f).toArray) (H f) ?x1 ?c1 ?_)
  try (case g1 => rfl)
  try (case o1 => rfl)
  try (case x1 => rfl)
  try (case c1 => rfl)
  intro gh w1 hgh hs1 hb1 hB1
  have hle : w.heap.size ≤ gh := Nat.le_of_eq hgh.out.symm
  have hbel : Below w.heap.size w w1 := hb1.mono hle
  clear hgh hs1 hb1
  go_wp2
  go_ret
  exact ⟨gh, rfl, hB1, hbel, hle⟩
end Go.Proofs.YtkkgfdfjgfigcaaDoor
