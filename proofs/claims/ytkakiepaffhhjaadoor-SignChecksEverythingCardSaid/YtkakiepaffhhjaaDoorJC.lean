/-
  Contracts of the functions that the statements of layer 3 call, part 3 of 10 (merged texts: Hbytes, Hsumb, Hof, Htext, Heq, Hhex, Hmac, Hev). Conditions: as the head of each part says.
-/
import Derived.Test.YtkakiepaffhhjaaDoorJA
import Derived.Test.YtkakiepaffhhjaaDoorJB
import Derived.Lib.AppendStr
import Derived.Laws.BytesArg
import Derived.Laws.DeepNot64
import Derived.Deep.RegionWith
import Derived.Deep.RegionLaw
import Derived.Deep.RegionHeld3
import Derived.Deep.WholeRow

/-
  Contracts of the walks over chapter 1's byte strings (wire.Bytes and the reference's Bytes), and what a slice of bytes holds: those of stage 1, for the translation of a later stage. Conditions: at most 10^9 bytes.
-/
namespace Go.Proofs.YtkakiepaffhhjaaDoor
open Go.RowKit

theorem B8_one' (l : List UInt8) : ∀ u ∈ l.map B8, u.oneCell' = true := by
  intro u hu; simp only [List.mem_map] at hu; obtain ⟨c, _, rfl⟩ := hu; rfl
theorem u64_not (x : Int) (h1 : 0 ≤ x) (h2 : x ≤ 18446744073709551615) : bits .xor .u64 IntKind.u64.max x = 18446744073709551615 - x := by
  obtain ⟨a, rfl⟩ := Int.eq_ofNat_of_zero_le h1
  have e : IntKind.u64.max = ((18446744073709551615 : Nat) : Int) := rfl
  rw [e, bits_xor_u64_nat _ _ (by decide) (by omega), Nat.xor_comm]
  have hx : a ^^^ 18446744073709551615 = 18446744073709551615 - a := by
    have ha : a < 2 ^ 64 := by omega
    have e2 : (BitVec.ofNat 64 a ^^^ BitVec.allOnes 64).toNat = (~~~ BitVec.ofNat 64 a).toNat := by rw [BitVec.xor_allOnes]
    rw [BitVec.toNat_xor, BitVec.toNat_not, BitVec.toNat_allOnes, BitVec.toNat_ofNat, Nat.mod_eq_of_lt ha] at e2
    simpa using e2
  rw [hx]
  omega
theorem fold_wrap (n : Int) (h1 : -9223372036854775808 ≤ n) (h2 : n ≤ 9223372036854775807) (h : n < 0) :
    bits BinOp.xor IntKind.u64 IntKind.u64.max (IntKind.u64.wrap (IntKind.u64.wrap n * 2)) = WM.fold n := by
  rw [u64_not]
  · unfold WM.fold; rw [if_pos h]; simp only [IntKind.wrap_u64]; omega
  · simp only [IntKind.wrap_u64]; omega
  · simp only [IntKind.wrap_u64]; omega

theorem fold_any (n : Int) (w : World) (h1 : -9223372036854775808 ≤ n) (h2 : n ≤ 9223372036854775807) :
    Calls Tryd.prog 62 #[.int .i64 n] w fun e w' => e = .returned (.int .u64 (WM.fold n)) ∧ w = w' := by
  by_cases h : n < 0
  · have H := Lib.hid (fold_wrap n h1 h2 h)
    go_enter Tryd.func62, Tryd.ntmps62
    go_wp2
    go_ret
    exact ⟨by rw [← H.out]; rfl, rfl⟩
  · go_enter Tryd.func62, Tryd.ntmps62
    go_wp2
    go_ret
    exact ⟨by unfold WM.fold; rw [if_neg (by omega)]; show Ending.returned (.int .u64 (n * 2)) = _; rw [show (((2 * n).toNat : Nat) : Int) = n * 2 by omega], rfl⟩

theorem Tryd.info8 : (Tryd.prog.info? 5).map (fun i => (i.zero, i.size, i.bytes)) = some (some (.int .u8 0), 1, 1) := by kernel_rfl

theorem or128 (z : Nat) (_h : 128 ≤ z) : bits .or .u8 (IntKind.u8.wrap (z : Int)) 128 = ((UInt8.ofNat (z % 128 + 128)).toNat : Int) := by
  rw [WM.byte_hi, IntKind.wrap_u8]
  have e : ((z : Int) % 256) = ((z % 256 : Nat) : Int) := by omega
  rw [e, show (128 : Int) = ((128 : Nat) : Int) by rfl, u8_or_nat _ _ (by omega) (by decide)]
  have : z % 256 ||| 128 = z % 128 + 128 := by
    rcases Nat.lt_or_ge (z % 256) 128 with hl | hl
    · have := nat_join 7 128 (z % 256) (by decide) (by omega)
      rw [Nat.or_comm, this]; omega
    · have h1 := nat_join 7 128 (z % 256 - 128) (by decide) (by omega)
      have h2 : z % 256 = 128 ||| (z % 256 - 128) := by rw [h1]; omega
      rw [h2, Nat.or_comm, ← Nat.or_assoc, Nat.or_self, h1]; omega
  rw [this]
theorem wrap_lo (z : Nat) (h : z < 128) : IntKind.u8.wrap (z : Int) = ((UInt8.ofNat z).toNat : Int) := by
  rw [WM.byte_lo h, IntKind.wrap_u8]; omega
theorem one_cell {w : World} {u x : Value} {t : TypeId} {j : Nat} (h : [x][j]? = some u) : (w.alloc (.cells #[x] t)).cell? ((⟨w.heap.size, 0, none⟩ : Addr).add j) = some u := by
  match j, h with
  | 0, h => simp at h; subst h; simp [Addr.add]
theorem one_one {c : UInt8} : ∀ u ∈ [B8 c], u.oneCell' = true := B8_one' [c]

/-- What the loop of addInt has done: z is left, pre has been appended. -/
def AddRel (base m : Nat) (xs : List Value) (n : Int) (w : World) (v z : Value) (wr : World) : Prop :=
  ∃ (Z : Nat) (pre : List UInt8), Z < 18446744073709551616 ∧ z = .int .u64 Z ∧ WM.encI n = pre ++ WM.encN Z ∧ wr.ownsRow base 5 1 v (m + pre.length) (xs ++ pre.map B8) ∧ Below base w wr

set_option maxRecDepth 100000 in
set_option maxHeartbeats 800000 in
theorem addInt_any (base : Nat) (v : Value) (m : Nat) (xs : List Value) (n : Int) (w : World) (h1 : -9223372036854775808 ≤ n) (h2 : n ≤ 9223372036854775807)
    (hown : w.ownsRow base 5 1 v m xs) (hb : base ≤ w.heap.size) (hm : m ≤ 1000000000) :
    Calls Tryd.prog 47 #[v, .int .i64 n] w fun e w' =>
      ∃ v', e = .returned v' ∧ w'.ownsRow base 5 1 v' (m + (WM.encI n).length) (xs ++ (WM.encI n).map B8) ∧ Below base w w' := by
  obtain ⟨i0, hi, hz0, hz1, hz2⟩ := info_parts Tryd.info8
  have hfl := WM.fold_lt h1 h2
  have hel : (WM.encI n).length ≤ 10 := WM.encN_le10 hfl
  go_enter Tryd.func47, Tryd.ntmps47
  go_wp2_with (go_at_call 62; refine (fold_any _ _ h1 h2).mono ?_; rintro e w' ⟨rfl, rfl⟩)
  go_loopw [0, 5] (AddRel base m xs n w) (fun _ z _ => (intOf z).toNat)
  case atStart => exact ⟨WM.fold n, [], hfl, rfl, rfl, by simpa using hown, Below.refl _ _⟩
  case round =>
    obtain ⟨Z, pre, hZ, rfl, he, hownr, hbel⟩ := hrel
    have HE := Lib.hid he
    have hpl : pre.length ≤ 10 := by rw [he] at hel; simp at hel; omega
    clear he
    have hsz := hbel.size
    by_cases hlt : Z < 128
    · go_wp2_with (at_builtin; refine wpList_append_own _ rfl _ _ 43 rfl base 5 i0 (.int .u8 0) 1 1 Tryd.underlying43 hi hz0 hz1 hz2 rfl (by decide) _ _ _ rfl (hownr.alloc _) ⟨wr.heap.size, 0, none⟩ 1 1 [.int .u8 (Z : Int)] rfl rfl ?c1 ?c2 ?c3 ?c4 ?c5 ?_)
      case c1 => exact fun j u hu => one_cell hu
      case c2 => intro u hu; simp at hu; subst hu; rfl
      case c3 => unfold maxLen; omega
      case c4 => omega
      case c5 => simp; omega
      intro v' w1 hown' hgrow _
      have hlt' := hownr.lt
      clear hownr
      go_wp2
      go_ret
      refine ⟨_, rfl, ?_, (hbel.alloc (by omega) _).grown hgrow (by simp; omega) (fun k hk => (hlt' k hk).1)⟩
      rw [HE.out, WM.encN_lo hlt]
      have e : (Value.int .u8 (Z : Int)) = B8 (UInt8.ofNat Z) := by unfold B8; rw [WM.byte_lo hlt]
      rw [e] at hown'
      simpa [Nat.add_assoc] using hown'
    · have HW := Lib.hid (or128 Z (by omega))
      go_wp2_with (at_builtin; refine wpList_append_own _ rfl _ _ 43 rfl base 5 i0 (.int .u8 0) 1 1 Tryd.underlying43 hi hz0 hz1 hz2 rfl (by decide) _ _ _ rfl (hownr.alloc _) ⟨wr.heap.size, 0, none⟩ 1 1 [.int .u8 (bits .or .u8 (IntKind.u8.wrap (Z : Int)) 128)] rfl rfl ?d1 ?d2 ?d3 ?d4 ?d5 ?_)
      case d1 => exact fun j u hu => one_cell hu
      case d2 => intro u hu; simp at hu; subst hu; rfl
      case d3 => unfold maxLen; omega
      case d4 => omega
      case d5 => simp; omega
      intro v' w1 hown' hgrow _
      have hlt' := hownr.lt
      clear hownr
      go_wp2
      go_roundw
      case rel =>
        refine ⟨Z / 128, pre ++ [UInt8.ofNat (Z % 128 + 128)], by omega, by go_num, ?_, ?_, (hbel.alloc (by omega) _).grown hgrow (by simp; omega) (fun k hk => (hlt' k hk).1)⟩
        · rw [HE.out, WM.encN_hi hlt]; simp
        · have e : (Value.int .u8 (bits .or .u8 (IntKind.u8.wrap (Z : Int)) 128)) = B8 (UInt8.ofNat (Z % 128 + 128)) := by unfold B8; rw [HW.out]
          rw [e] at hown'
          simpa [Nat.add_assoc] using hown'
      case measure => simp [intOf]; omega

/-- What lies at a slice's address. -/
def Holds (w : World) (A : Option Addr) (xs : List Value) : Prop := ∀ k u, xs[k]? = some u → ∃ ad, A = some ad ∧ w.cell? (ad.add k) = some u
/-- What could be read can still be read. -/
def Keeps (w w' : World) : Prop := ∀ p v, w.cell? p = some v → w'.cell? p = some v
theorem Keeps.of {w w' : World} (h : Below w.heap.size w w') : Keeps w w' := fun p v hp => by rw [h.cell (World.block_lt_of_cell? w p hp)]; exact hp
theorem Holds.keep {w w' : World} {A : Option Addr} {xs : List Value} (h : Holds w A xs) (k : Keeps w w') : Holds w' A xs := fun j u hu => by
  obtain ⟨ad, e, hc⟩ := h j u hu
  exact ⟨ad, e, k _ _ hc⟩
theorem Holds.byte {w : World} {A : Option Addr} {l : List UInt8} (h : Holds w A (l.map B8)) {k : Nat} (hk : k < l.length) : ∃ ad, A = some ad ∧ w.cell? (ad.add k) = some (.int .u8 ((l.getD k 0).toNat : Int)) := by
  have hu : (l.map B8)[k]? = some (B8 (l.getD k 0)) := by simp [List.getElem?_eq_getElem hk]
  exact h k _ hu

theorem strCells_B8 (s : ByteArray) : Lib.strCells s = s.data.toList.map B8 := rfl
theorem bytes_size (s : ByteArray) : s.data.toList.length = s.size := by rw [Array.length_toList]; rfl
set_option maxRecDepth 100000 in
set_option maxHeartbeats 800000 in
theorem addBytes_any (base : Nat) (v : Value) (m : Nat) (xs : List Value) (s : ByteArray) (w : World) (hs : s.size ≤ 1000000000)
    (hown : w.ownsRow base 5 1 v m xs) (hb : base ≤ w.heap.size) (hm : m ≤ 1000000000) :
    Calls Tryd.prog 71 #[v, .string s] w fun e w' =>
      ∃ v', e = .returned v' ∧ w'.ownsRow base 5 1 v' (m + (WM.encB s.data.toList).length) (xs ++ (WM.encB s.data.toList).map B8) ∧ Below base w w' := by
  obtain ⟨i0, hi, hz0, hz1, hz2⟩ := info_parts Tryd.info8
  have hel : (WM.encI (s.size : Int)).length ≤ 10 := WM.encI_le ⟨by omega, by omega⟩
  go_enter Tryd.func71, Tryd.ntmps71
  go_wp2_with fail
  refine (addInt_any base _ m xs (s.size : Int) _ (by omega) (by omega) hown hb hm).mono ?_
  rintro e w1 ⟨v1, rfl, hown1, hb1⟩
  have hlt1 := hown1.lt
  have hsz := hb1.size
  go_wp2_with (at_builtin; refine Lib.wpList_append_own_string _ rfl _ _ 43 9 rfl base 5 i0 Tryd.underlying43 Tryd.underlying9 hi hz0 hz1 hz2 _ _ _ rfl hown1 s rfl ?c1 ?c2 ?c3 ?_)
  case c1 => unfold maxLen; omega
  case c2 => omega
  case c3 => omega
  intro v2 w2 hown2 hgrow _
  clear hown1
  go_wp2
  go_ret
  refine ⟨_, rfl, ?_, hb1.grown hgrow (by omega) (fun k hk => (hlt1 k hk).1)⟩
  unfold WM.encB
  rw [bytes_size, List.length_append, bytes_size, List.map_append, ← Nat.add_assoc, ← strCells_B8]
  exact hown2

theorem bytes_any (s : ByteArray) (w : World) (hs : s.size ≤ 1000000000) :
    Calls Tryd.prog 55 #[.string s] w fun e w' =>
      ∃ v', e = .returned v' ∧ w'.ownsRow w.heap.size 5 1 v' (WM.encB s.data.toList).length ((WM.encB s.data.toList).map B8) ∧ Below w.heap.size w w' := by
  go_enter Tryd.func55, Tryd.ntmps55
  go_wp2_with (go_at_call 71; refine (addBytes_any w.heap.size _ 0 [] s _ hs (World.ownsRow_nil _ _ _ _) (Nat.le_refl _) (by decide)).mono ?_; rintro e w' ⟨v', rfl, hown, hb⟩)
  go_ret
  exact ⟨_, rfl, by simpa using hown, hb⟩

theorem ofNat_toNat8 (c : UInt8) : UInt8.ofNat ((c.toNat : Int)).toNat = c := by simp
/-- 'string(b)' of a slice that holds the bytes of a list. -/
theorem run_conv (w : World) (A : Option Addr) (cap : Nat) (l : List UInt8) (hh : Holds w A (l.map B8)) :
    (convert 43 9 (.slice A l.length cap)).run Tryd.prog w = .ok (.string ⟨l.toArray⟩) w := by
  rcases A with _ | ad
  · have hl : l = [] := by
      cases l with
      | nil => rfl
      | cons c r => obtain ⟨ad, h, _⟩ := hh 0 (B8 c) rfl; cases h
    subst hl
    rw [run_convert_bytes_nil w 43 5 Tryd.underlying43 Tryd.underlying5 _ _ 9 Tryd.underlying9]
    rfl
  · have hl : (loadCells ad l.length).run Tryd.prog w = .ok ((l.map fun c => (c.toNat : Int)).map (Value.int .u8)).toArray w := by
      have := run_loadCells_list (P := Tryd.prog) w ad (l.map B8) (fun j v hj => by
        obtain ⟨ad', e, hc⟩ := hh j v hj
        cases e
        exact hc)
      rw [List.length_map] at this
      rw [this, List.map_map]
      rfl
    rw [run_convert_bytes_string w 43 9 5 _ _ _ Tryd.underlying43 Tryd.underlying5 Tryd.underlying9, run_bytesToString w ad l.length cap _ hl, foldl_push_bytes]
    congr 2
    apply ByteArray.ext
    apply Array.toList_inj.1
    simp only [ByteArray.empty, ByteArray.emptyWithCapacity, List.map_map]
    rw [show ((fun n : Int => UInt8.ofNat n.toNat) ∘ fun c : UInt8 => (c.toNat : Int)) = id from funext ofNat_toNat8, List.map_id]
    simp
    rfl

theorem add_add (a : Addr) (i j : Nat) : (a.add i).add j = a.add (i + j) := by
  unfold Addr.add
  by_cases hi : i = 0 <;> by_cases hj : j = 0 <;> simp [hi, hj, Nat.add_assoc]
/-- A part of what a slice holds. -/
theorem Holds.cut {w : World} {A : Option Addr} {xs : List Value} (h : Holds w A xs) {k n m : Nat} (hm : xs.length ≤ m) : Holds w (if m = k then A else A.map (·.add k)) ((xs.drop k).take n) := by
  intro j u hu
  rw [List.getElem?_take] at hu
  split at hu
  · rw [List.getElem?_drop] at hu
    obtain ⟨ad, rfl, hc⟩ := h _ _ hu
    have hlt : k + j < xs.length := by
      rcases Nat.lt_or_ge (k + j) xs.length with hl | hl
      · exact hl
      · rw [List.getElem?_eq_none hl] at hu; cases hu
    rw [if_neg (by omega)]
    exact ⟨_, rfl, by rw [add_add]; exact hc⟩
  · cases hu

/-- What a row that the call owns holds. -/
theorem holds_own {w : World} {base size : Nat} {E : TypeId} {v : Value} {n : Nat} {xs : List Value} (h : w.ownsRow base E size v n xs) : ∃ A cap, v = .slice A n cap ∧ n ≤ cap ∧ Holds w A xs := by
  have hl := h.1
  rcases h.2 with ⟨rfl, rfl⟩ | ⟨g, cap, cur, rfl, _, _, hc, _⟩
  · refine ⟨none, 0, rfl, Nat.le_refl _, fun k u hu => ?_⟩
    have : xs = [] := List.eq_nil_of_length_eq_zero (by omega)
    rw [this] at hu; simp at hu
  · exact ⟨_, cap, rfl, hc, fun k u hu => ⟨_, rfl, h.cells rfl k u hu⟩⟩

def PutPost (bs : List UInt8) (w : World) (e : Ending) (w' : World) : Prop :=
  ∃ v', e = .returned v' ∧ w'.ownsRow w.heap.size 5 1 v' bs.length (bs.map B8) ∧ Below w.heap.size w w'
theorem refLoop_end (Z : Nat) (hZ : Z < 128) : (Value.int .u8 (Z : Int)) = B8 (UInt8.ofNat Z) := by unfold B8; rw [WM.byte_lo hZ]

set_option maxRecDepth 100000 in
set_option maxHeartbeats 1600000 in
theorem refInt_any (n : Int) (w : World) (h1 : -9223372036854775808 ≤ n) (h2 : n ≤ 9223372036854775807) :
    Calls Tryd.prog 24 #[.int .i64 n] w (PutPost (WM.encI n) w) := by
  obtain ⟨i0, hi, hz0, hz1, hz2⟩ := info_parts Tryd.info8
  have hfl := WM.fold_lt h1 h2
  have hel : (WM.encI n).length ≤ 10 := WM.encN_le10 hfl
  by_cases hneg : n < 0
  · have hf : (WM.fold n : Int) = (-1 - n) * 2 + 1 := by unfold WM.fold; rw [if_pos hneg]; omega
    have HF := Lib.hid hf
    clear hf
    go_enter Tryd.func24, Tryd.ntmps24
    go_wp2_with fail
    go_loopw [4, 3] (AddRel w.heap.size 0 [] n w) (fun _ z _ => (intOf z).toNat)
    case atStart => exact ⟨WM.fold n, [], hfl, by rw [HF.out], rfl, by simpa using World.ownsRow_nil w w.heap.size 5 1, Below.refl _ _⟩
    case round =>
      obtain ⟨Z, pre, hZ, rfl, he, hownr, hbel⟩ := hrel
      have HE := Lib.hid he
      have hpl : pre.length ≤ 10 := by rw [he] at hel; simp at hel; omega
      clear he
      have hsz := hbel.size
      by_cases hlt : Z < 128
      · go_wp2_with (at_builtin; refine wpList_append_own _ rfl _ _ 43 rfl w.heap.size 5 i0 (.int .u8 0) 1 1 Tryd.underlying43 hi hz0 hz1 hz2 rfl (by decide) _ _ _ rfl (hownr.alloc _) ⟨wr.heap.size, 0, none⟩ 1 1 [.int .u8 (Z : Int)] rfl rfl ?c1 ?c2 ?c3 ?c4 ?c5 ?_)
        case c1 => exact fun j u hu => one_cell hu
        case c2 => intro u hu; simp at hu; subst hu; rfl
        case c3 => unfold maxLen; omega
        case c4 => omega
        case c5 => simp; omega
        intro v' w1 hown' hgrow _
        have hlt' := hownr.lt
        clear hownr
        go_wp2
        go_ret
        refine ⟨_, rfl, ?_, (hbel.alloc (by omega) _).grown hgrow (by simp; omega) (fun k hk => (hlt' k hk).1)⟩
        rw [HE.out, WM.encN_lo hlt]
        rw [refLoop_end Z hlt] at hown'
        simpa [Nat.add_assoc] using hown'
      · go_wp2_with (at_builtin; refine wpList_append_own _ rfl _ _ 43 rfl w.heap.size 5 i0 (.int .u8 0) 1 1 Tryd.underlying43 hi hz0 hz1 hz2 rfl (by decide) _ _ _ rfl (hownr.alloc _) ⟨wr.heap.size, 0, none⟩ 1 1 [.int .u8 ((Z : Int) % 128 + 128)] rfl rfl ?d1 ?d2 ?d3 ?d4 ?d5 ?_)
        case d1 => exact fun j u hu => one_cell hu
        case d2 => intro u hu; simp at hu; subst hu; rfl
        case d3 => unfold maxLen; omega
        case d4 => omega
        case d5 => simp; omega
        intro v' w1 hown' hgrow _
        have hlt' := hownr.lt
        clear hownr
        go_wp2
        go_roundw
        case rel =>
          refine ⟨Z / 128, pre ++ [UInt8.ofNat (Z % 128 + 128)], by omega, by go_num, ?_, ?_, (hbel.alloc (by omega) _).grown hgrow (by simp; omega) (fun k hk => (hlt' k hk).1)⟩
          · rw [HE.out, WM.encN_hi hlt]; simp
          · have e : (Value.int .u8 ((Z : Int) % 128 + 128)) = B8 (UInt8.ofNat (Z % 128 + 128)) := by unfold B8; rw [WM.byte_hi]; rfl
            rw [e] at hown'
            simpa [Nat.add_assoc] using hown'
        case measure => simp [intOf]; omega
  · have hf : (WM.fold n : Int) = n * 2 := by unfold WM.fold; rw [if_neg hneg]; omega
    have HF := Lib.hid hf
    clear hf
    go_enter Tryd.func24, Tryd.ntmps24
    go_wp2_with fail
    go_loopw [4, 3] (AddRel w.heap.size 0 [] n w) (fun _ z _ => (intOf z).toNat)
    case atStart => exact ⟨WM.fold n, [], hfl, by rw [HF.out], rfl, by simpa using World.ownsRow_nil w w.heap.size 5 1, Below.refl _ _⟩
    case round =>
      obtain ⟨Z, pre, hZ, rfl, he, hownr, hbel⟩ := hrel
      have HE := Lib.hid he
      have hpl : pre.length ≤ 10 := by rw [he] at hel; simp at hel; omega
      clear he
      have hsz := hbel.size
      by_cases hlt : Z < 128
      · go_wp2_with (at_builtin; refine wpList_append_own _ rfl _ _ 43 rfl w.heap.size 5 i0 (.int .u8 0) 1 1 Tryd.underlying43 hi hz0 hz1 hz2 rfl (by decide) _ _ _ rfl (hownr.alloc _) ⟨wr.heap.size, 0, none⟩ 1 1 [.int .u8 (Z : Int)] rfl rfl ?f1 ?f2 ?f3 ?f4 ?f5 ?_)
        case f1 => exact fun j u hu => one_cell hu
        case f2 => intro u hu; simp at hu; subst hu; rfl
        case f3 => unfold maxLen; omega
        case f4 => omega
        case f5 => simp; omega
        intro v' w1 hown' hgrow _
        have hlt' := hownr.lt
        clear hownr
        go_wp2
        go_ret
        refine ⟨_, rfl, ?_, (hbel.alloc (by omega) _).grown hgrow (by simp; omega) (fun k hk => (hlt' k hk).1)⟩
        rw [HE.out, WM.encN_lo hlt]
        rw [refLoop_end Z hlt] at hown'
        simpa [Nat.add_assoc] using hown'
      · go_wp2_with (at_builtin; refine wpList_append_own _ rfl _ _ 43 rfl w.heap.size 5 i0 (.int .u8 0) 1 1 Tryd.underlying43 hi hz0 hz1 hz2 rfl (by decide) _ _ _ rfl (hownr.alloc _) ⟨wr.heap.size, 0, none⟩ 1 1 [.int .u8 ((Z : Int) % 128 + 128)] rfl rfl ?k1 ?k2 ?k3 ?k4 ?k5 ?_)
        case k1 => exact fun j u hu => one_cell hu
        case k2 => intro u hu; simp at hu; subst hu; rfl
        case k3 => unfold maxLen; omega
        case k4 => omega
        case k5 => simp; omega
        intro v' w1 hown' hgrow _
        have hlt' := hownr.lt
        clear hownr
        go_wp2
        go_roundw
        case rel =>
          refine ⟨Z / 128, pre ++ [UInt8.ofNat (Z % 128 + 128)], by omega, by go_num, ?_, ?_, (hbel.alloc (by omega) _).grown hgrow (by simp; omega) (fun k hk => (hlt' k hk).1)⟩
          · rw [HE.out, WM.encN_hi hlt]; simp
          · have e : (Value.int .u8 ((Z : Int) % 128 + 128)) = B8 (UInt8.ofNat (Z % 128 + 128)) := by unfold B8; rw [WM.byte_hi]; rfl
            rw [e] at hown'
            simpa [Nat.add_assoc] using hown'
        case measure => simp [intOf]; omega

set_option maxRecDepth 100000 in
set_option maxHeartbeats 800000 in
theorem refBytes_any (s : ByteArray) (w : World) (hs : s.size ≤ 1000000000) :
    Calls Tryd.prog 72 #[.string s] w (PutPost (WM.encB s.data.toList) w) := by
  obtain ⟨i0, hi, hz0, hz1, hz2⟩ := info_parts Tryd.info8
  have hel : (WM.encI (s.size : Int)).length ≤ 10 := WM.encI_le ⟨by omega, by omega⟩
  go_enter Tryd.func72, Tryd.ntmps72
  go_wp2_with fail
  refine (refInt_any (s.size : Int) _ (by omega) (by omega)).mono ?_
  rintro e w1 ⟨v1, rfl, hown1, hb1⟩
  have hlt1 := hown1.lt
  have hsz := hb1.size
  go_wp2_with (at_builtin; refine Lib.wpList_append_own_string _ rfl _ _ 43 9 rfl w.heap.size 5 i0 Tryd.underlying43 Tryd.underlying9 hi hz0 hz1 hz2 _ _ _ rfl hown1 s rfl ?c1 ?c2 ?c3 ?_)
  case c1 => unfold maxLen; omega
  case c2 => omega
  case c3 => omega
  intro v2 w2 hown2 hgrow _
  clear hown1
  go_wp2
  go_ret
  refine ⟨_, rfl, ?_, hb1.grown hgrow (by omega) (fun k hk => (hlt1 k hk).1)⟩
  unfold WM.encB
  rw [bytes_size, List.length_append, bytes_size, List.map_append, ← strCells_B8]
  exact hown2

theorem below_join {a b c : World} (h : Below a.heap.size a b) (k : Below b.heap.size b c) : Below a.heap.size a c := h.trans (k.mono h.size)
theorem Holds.next {w w' : World} {A : Option Addr} {xs : List Value} (h : Holds w A xs) (hb : Below w.heap.size w w') : Holds w' A xs := h.keep (Keeps.of hb)
end Go.Proofs.YtkakiepaffhhjaaDoor

/-
  Contracts of the walks over chapter 2's Sum, keyed and Equal. Conditions: at most 10^9 bytes; the tables read as the document has them.
-/
namespace Go.Proofs.YtkakiepaffhhjaaDoor
open Go.RowKit

theorem run_storeRow {P : Program} (g : Nat) (t : TypeId) (l cs : List Value) (hl : cs.length = l.length) (h1 : ∀ u ∈ cs, u.oneCell' = true) (w0 : World) (hg : g < w0.heap.size) (hb : Blk w0 g t l) :
    ∀ w, Below w0.heap.size w0 w → (storeCells ⟨g, 0, none⟩ cs).run P w = .ok () (w.setRow g cs.toArray) := fun w hw => by
  have hb' := hb.next hw hg
  have := run_storeCells_at (P := P) g 0 t cs 0 l.toArray w hb' (by simp; omega) h1
  rw [this]
  simp [hl]
theorem run_conv_later (w0 : World) (A : Option Addr) (cap n : Nat) (l : List UInt8) (hn : n = l.length) (hh : Holds w0 A (l.map B8)) :
    ∀ w, Below w0.heap.size w0 w → (convert 43 9 (.slice A n cap)).run Tryd.prog w = .ok (.string ⟨l.toArray⟩) w := fun w hw => by
  subst hn
  exact run_conv w A cap l (hh.next hw)
theorem below_drew (w : World) : Below w.heap.size w w.drew := (Below.refl _ _).drew
theorem str_toList (l : List UInt8) : (⟨l.toArray⟩ : ByteArray).data.toList = l := by simp
theorem str_size (l : List UInt8) : (⟨l.toArray⟩ : ByteArray).size = l.length := by simp [ByteArray.size]

theorem add_nil_raw (l : List UInt8) (w : World) (hl : l.length ≤ 1000000000) (HY : Lay w) :
    Calls Tryd.prog 65 #[.agg (strmC SM.start (SM.zeros 64) 0).toArray, .string ⟨l.toArray⟩] w fun e w' => e = .returned (.agg (SVc l).toArray) ∧ Below w.heap.size w w' := by
  have := add_any [] ⟨l.toArray⟩ w (by rw [str_size]; simpa using hl) HY
  rw [List.nil_append, str_toList] at this
  exact this

set_option maxRecDepth 100000 in
set_option maxHeartbeats 1600000 in
theorem sum_any (A : Option Addr) (cap n : Nat) (l : List UInt8) (w : World) (hn : n = l.length) (hl : l.length ≤ 1000000000) (HY : Lay w) (hh : Holds w A (l.map B8)) :
    Calls Tryd.prog 56 #[.slice A n cap] w fun e w' => e = .returned (.agg ((SM.sum l).map B8).toArray) ∧ Below w.heap.size w w' := by
  have hsl : Hid (((SM.sum l).map B8).length = 32) := by have : ((SM.sum l).map B8).length = 32 := by rw [List.length_map, SM.sum_length]
                                                         exact this
  have HN := Lib.hid hn
  clear hn
  go_enter Tryd.func56, Tryd.ntmps56
  go_wp2_with (with_reducible refine wpList_alloc (o := ⟨some 2, .alloc 76, _, _, _, _⟩) ?g1 76 ?o1 (aggB (SM.zeros 32)) zero32 ?z1 ?c1 ?_)
  try (case g1 => rfl)
  try (case o1 => rfl)
  try (case z1 => exact Tryd.zero24)
  try (case c1 => rfl)
  intro gr w1 hgr hs1 hb1 hB1
  have hle : w.heap.size ≤ gr := Nat.le_of_eq hgr.out.symm
  have hb1' : Below w.heap.size w w1 := hb1.mono hle
  have HY1 := HY.next hb1'
  have hcv := run_conv_later w1 A cap n l HN.out (hh.next hb1')
  have hst := run_storeRow (P := Tryd.prog) gr 76 zero32 ((SM.sum l).map B8) (by rw [hsl.out]; rfl) (B8_one _) w1 hB1.lt hB1
  have hd := below_drew w1
  clear hb1 hgr hs1
  go_wp2
  go_region_with (first
    | (go_at_call 64; refine (begin_any _ (HY1.next (by assumption))).mono ?_; rintro e w2 ⟨rfl, hb2⟩; have hk := below_join (by assumption) hb2; clear hb2)
    | (go_at_call 65; refine (add_nil_raw l _ hl (HY1.next (by assumption))).mono ?_; rintro e w3 ⟨rfl, hb3⟩; have hk3 := below_join (by assumption) hb3; clear hb3)
    | (go_at_call 66; refine (ssum_any l _ hl (HY1.next (by assumption))).mono ?_; rintro e w4 ⟨rfl, hb4⟩; have hk4 := below_join (by assumption) hb4; clear hb4))
  all_goals
    have hB4 := blk_setRow (hB1.next hk4 hB1.lt) ((SM.sum l).map B8)
    have hbel : Below w.heap.size w (w4.setRow gr ((SM.sum l).map B8).toArray) := (hb1'.trans (hk4.mono hb1'.size)).trans ((upd_setRow w4 gr _).below hle)
    generalize w4.setRow gr ((SM.sum l).map B8).toArray = w5 at hB4 hbel ⊢
    clear hcv hst hk hk3 hk4 hd HY1 hB1 hb1'
    go_wp2
    refine bodyPost_ret (results_cell_row rfl _ _ gr _ _ _ _ rfl hB4 Tryd.underlying76 rfl (by rw [List.size_toArray, hsl.out]; exact Tryd.size24)) rfl ⟨rfl, hbel⟩

theorem b_xor (a b : UInt8) : bits .xor .u8 (a.toNat : Int) (b.toNat : Int) = ((a ^^^ b).toNat : Int) := by
  rw [u8_xor_nat _ _ a.toNat_lt b.toNat_lt, UInt8.toNat_xor]
/-- A key combined with a byte, the first k bytes. -/
def xorTo (l : List UInt8) (p : UInt8) (k : Nat) : List UInt8 := (l.take k).map (· ^^^ p) ++ l.drop k
theorem xorTo_length (l : List UInt8) (p : UInt8) (k : Nat) : (xorTo l p k).length = l.length := by
  unfold xorTo; rw [List.length_append, List.length_map, List.length_take, List.length_drop]; omega
theorem xorTo_at (l : List UInt8) (p : UInt8) (k : Nat) (h : k < l.length) : ((xorTo l p k).map B8)[k]? = some (B8 (l.getD k 0)) := by
  unfold xorTo
  rw [List.getElem?_map, List.getElem?_append_right (by rw [List.length_map, List.length_take]; omega), List.length_map, List.length_take, Nat.min_eq_left (by omega), Nat.sub_self, List.getElem?_drop, Nat.add_zero, List.getD_eq_getElem?_getD, List.getElem?_eq_getElem h]
  rfl
theorem xorTo_snoc (l : List UInt8) (p : UInt8) (k : Nat) (h : k < l.length) : splice ((xorTo l p k).map B8) k [B8 (l.getD k 0 ^^^ p)] = (xorTo l p (k + 1)).map B8 := by
  have e : xorTo l p (k + 1) = (l.take k).map (· ^^^ p) ++ ((l.getD k 0 ^^^ p) :: l.drop (k + 1)) := by
    unfold xorTo
    rw [List.take_succ_eq_append_getElem h, List.map_append, List.append_assoc, List.getD_eq_getElem?_getD, List.getElem?_eq_getElem h]
    rfl
  have hk : ((l.take k).map (· ^^^ p)).length = k := by rw [List.length_map, List.length_take]; omega
  rw [e]
  unfold splice xorTo
  rw [List.map_append, List.take_left' (by rw [List.length_map, hk]), List.drop_append, List.drop_eq_nil_of_le (by rw [List.length_map, hk]; exact Nat.le_add_right _ _), List.length_map, hk, List.map_append, ← List.map_drop, List.drop_drop]
  simp
theorem run_cutAll {P : Program} (ty e : TypeId) (n : Nat) (hu : P.underlying ty = some (.array n e)) (hs : (P.info? e).map (·.size) = some 1) (hn : n ≠ 0) (g b : Nat) (w : World) :
    (Instr.sliceAt ty (.pointer (some ⟨g, b, none⟩)) none none none).run P w = .ok (.slice (some ⟨g, b, none⟩) n n) w := by
  obtain ⟨e1, e2⟩ := arrayLen_of hu
  have hrun := run_sliceAt_array_all (P := P) w ty ⟨g, b, none⟩ (by rw [e1, e2]; exact hu)
  cases hq : P.info? e with
  | none => simp [hq] at hs
  | some i =>
    have hz : i.size = 1 := by simpa [hq] using hs
    rw [e1, e2] at hrun
    simpa [sizeOf, typeInfo, hq, hz, slicedAt, addr_mid, hn] using hrun
theorem blk_holds {w : World} {g : Nat} {t : TypeId} {l : List Value} (h : Blk w g t l) : Holds w (some ⟨g, 0, none⟩) l := fun j u hu => ⟨_, rfl, by rw [addr_mid, Nat.zero_add]; exact h.cell hu⟩
def KeyRel (l : List UInt8) (p : UInt8) (B gk gr : Nat) (w : World) (i : Value) (wr : World) : Prop :=
  ∃ k : Nat, k ≤ 64 ∧ i = .int .i64 k ∧ Blk wr gk 84 ((xorTo l p k).map B8) ∧ Blk wr gr 88 zeroS ∧ Below B w wr

set_option maxRecDepth 100000 in
set_option maxHeartbeats 1600000 in
theorem keyed_any (l : List UInt8) (p : UInt8) (w : World) (hl : l.length = 64) (HY : Lay w) :
    Calls Tryd.prog 67 #[.agg (l.map B8).toArray, .int .u8 (p.toNat : Int)] w fun e w' => e = .returned (.agg (SVc (l.map (· ^^^ p))).toArray) ∧ Below w.heap.size w w' := by
  have HL := Lib.hid hl
  clear hl
  go_enter Tryd.func67, Tryd.ntmps67
  go_wp2_with (with_reducible refine wpList_box (o := ⟨some 2, .box 84 (.tmp 0), _, _, _, _⟩) ?g1 84 (.tmp 0) ?o1 (.agg (l.map B8).toArray) (l.map B8) ?x1 ?c1 ?_)
  try (case g1 => rfl)
  try (case o1 => rfl)
  try (case x1 => rfl)
  try (case c1 => rfl)
  intro gk w1 hgk hs1 hb1 hB1
  go_wp2_with (with_reducible refine wpList_alloc (o := ⟨some 4, .alloc 88, _, _, _, _⟩) ?g2 88 ?o2 (strmV ⟨0, 0, 0, 0, 0, 0, 0, 0⟩ (SM.zeros 64) 0) zeroS ?z2 ?c2 ?_)
  try (case g2 => rfl)
  try (case o2 => rfl)
  try (case z2 => exact Tryd.zero34)
  try (case c2 => rfl)
  intro gr w2 hgr hs2 hb2 hB2
  have hlt0 : w.heap.size ≤ gk := Nat.le_of_eq hgk.out.symm
  have hlt1 : gk < gr := by have := hs1.out; have := hgr.out; omega
  have hb : Below w.heap.size w w2 := (hb1.mono hlt0).trans (hb2.mono (by omega))
  have hBk := hB1.next hb2 hlt1
  clear hgk hgr hs1 hs2 hb1 hb2 hB1
  go_wp2
  go_loopw [6] (KeyRel l p w.heap.size gk gr w) (fun i _ => 64 - (intOf i).toNat)
  case atStart => exact ⟨0, by omega, rfl, hBk, hB2, hb⟩
  case round =>
    obtain ⟨k, hk, rfl, hBk, hBr, hbel⟩ := hrel
    by_cases hlt : k < 64
    · have hc := hBk.cell (xorTo_at l p k (by rw [HL.out]; exact hlt))
      have hsn := Lib.hid (xorTo_snoc l p k (by rw [HL.out]; exact hlt))
      generalize l.getD k 0 = c at hc hsn
      unfold B8 at hc
      go_wp2_with (with_reducible refine wpList_put (o := ⟨none, .store 5 (.tmp 14) (.tmp 13), _, _, _, _⟩) ?g3 5 (.tmp 14) (.tmp 13) ?o3 gk k ?x3 (B8 (c ^^^ p)) ?y3 hBk [B8 (c ^^^ p)] ?v3 ?i3 ?l3 ?q3 ?_)
      try (case y3 => (show Value.int .u8 (bits .xor .u8 (c.toNat : Int) (p.toNat : Int)) = _; rw [b_xor]; rfl))
      try (case x3 => rfl)
      try (case g3 => rfl)
      try (case o3 => rfl)
      try (case v3 => rfl)
      try (case i3 => exact Tryd.size5)
      try (case l3 => (rw [List.length_map, xorTo_length, HL.out]; simp; omega))
      try (case q3 => exact one_cell1 rfl)
      intro w3 hu3 hB3
      rw [hsn.out] at hB3
      have hBr3 := hBr.upd hu3 (by omega)
      have hbel3 := hbel.trans (hu3.below (B := w.heap.size) (by omega))
      clear hBk hBr hbel hu3 hsn hc
      go_wp2
      go_roundw
      case rel => exact ⟨k + 1, by omega, by go_num, hB3, hBr3, hbel3⟩
      case measure => simp [intOf]; omega
    · obtain ⟨X, hX, hXl⟩ : ∃ X, Hid (l.map (· ^^^ p) = X) ∧ Hid (X.length = 64) := ⟨_, rfl, (by rw [List.length_map, HL.out] : (l.map (· ^^^ p)).length = 64)⟩
      have hkX : (xorTo l p k).map B8 = X.map B8 := by
        have : k = 64 := by omega
        rw [this, ← hX.out]
        unfold xorTo
        rw [List.take_of_length_le (by rw [HL.out]; exact Nat.le_refl _), List.drop_eq_nil_of_le (by rw [HL.out]; exact Nat.le_refl _), List.append_nil]
      rw [hkX] at hBk
      clear hkX
      have HYr := HY.next hbel
      have hcut := run_cutAll (P := Tryd.prog) 84 5 64 Tryd.underlying84 Tryd.size5 (by decide) gk 0
      have hcv := run_conv_later wr (some ⟨gk, 0, none⟩) 64 64 X hXl.out.symm (blk_holds hBk)
      have hst := run_storeRow (P := Tryd.prog) gr 88 zeroS (SVc X) (by rw [SVc_length]; rfl) (strm_one _ _ _) wr hBr.lt hBr
      have hd := below_drew wr
      have hlen := SVc_length X
      have hXb : X.length ≤ 1000000000 := by rw [hXl.out]; decide
      go_wp2
      go_region_with (first
        | (go_at_call 64; refine (begin_any _ (HYr.next (by assumption))).mono ?_; rintro e w5 ⟨rfl, hb5⟩; have hk5 := below_join (by assumption) hb5; clear hb5)
        | (go_at_call 65; refine (add_nil_raw X _ hXb (HYr.next (by assumption))).mono ?_; rintro e w6 ⟨rfl, hb6⟩; have hk6 := below_join (by assumption) hb6; clear hb6))
      all_goals
        have hB7 := blk_setRow (hBr.next hk6 hBr.lt) (SVc X)
        have hbel7 : Below w.heap.size w (w6.setRow gr (SVc X).toArray) := (hbel.trans (hk6.mono hbel.size)).trans ((upd_setRow w6 gr _).below (by omega))
        generalize w6.setRow gr (SVc X).toArray = w7 at hB7 hbel7 ⊢
        clear hcv hst hk5 hk6 hd HYr hBr hBk hbel hcut
        go_wp2
        refine bodyPost_ret (results_cell_row rfl _ _ gr _ _ _ _ rfl hB7 Tryd.underlying88 rfl (by rw [List.size_toArray, SVc_length]; exact Tryd.size34)) rfl ⟨by rw [hX.out], hbel7⟩
end Go.Proofs.YtkakiepaffhhjaaDoor

/-
  Contracts of the walks over chapter 2's Of and the reference's Input. Conditions: at most 10^9 bytes in all; the tables read as the document has them.
-/
namespace Go.Proofs.YtkakiepaffhhjaaDoor
open Go.RowKit

def tagB (t : Int) : UInt8 := UInt8.ofNat (t % 256).toNat
theorem tagB_eq (t : Int) : B8 (tagB t) = .int .u8 (t % 256) := by
  unfold B8 tagB
  rw [UInt8.toNat_ofNat']
  congr 1
  omega
def strsOf (xs : List ByteArray) : List (List UInt8) := xs.map fun s => s.data.toList
/-- The input that Of hashes. -/
def ofIn (t : Int) (xs : List ByteArray) : List UInt8 := tagB t :: (strsOf xs).flatMap WM.encB
/-- Its first k parts. -/
def ofTo (t : Int) (xs : List ByteArray) (k : Nat) : List UInt8 := tagB t :: (strsOf (xs.take k)).flatMap WM.encB
theorem ofTo_succ (t : Int) (xs : List ByteArray) (k : Nat) (h : k < xs.length) : ofTo t xs (k + 1) = ofTo t xs k ++ WM.encB xs[k].data.toList := by
  unfold ofTo strsOf
  rw [List.take_succ_eq_append_getElem h]
  simp only [List.map_append, List.flatMap_append, List.map_cons, List.map_nil, List.flatMap_cons, List.flatMap_nil, List.append_nil, List.cons_append]
theorem ofTo_all (t : Int) (xs : List ByteArray) : ofTo t xs xs.length = ofIn t xs := by unfold ofTo ofIn; rw [List.take_length]
theorem ofTo_le (t : Int) (xs : List ByteArray) (k : Nat) (_h : k ≤ xs.length) : (ofTo t xs k).length ≤ (ofIn t xs).length := by
  have e : ofIn t xs = ofTo t xs k ++ (strsOf (xs.drop k)).flatMap WM.encB := by
    unfold ofTo ofIn strsOf
    conv => lhs; rw [← List.take_append_drop k xs]
    simp only [List.map_append, List.flatMap_append, List.cons_append]
  rw [e, List.length_append]; omega
theorem own_some {w : World} {base : Nat} {v : Value} {n : Nat} {xs : List Value} (h : w.ownsRow base 5 1 v n xs) (hn : 0 < n) : ∃ g cap, v = .slice (some ⟨g, 0, none⟩) n cap ∧ (∀ j u, xs[j]? = some u → w.cell? ((⟨g, 0, none⟩ : Addr).add j) = some u) := by
  obtain ⟨h1, h2⟩ := h
  rcases h2 with ⟨rfl, h0⟩ | ⟨g, cap, cur, rfl, r⟩
  · omega
  · exact ⟨g, cap, rfl, World.ownsRow.cells ⟨h1, .inr ⟨g, cap, cur, rfl, r⟩⟩ rfl⟩
theorem own_next {w w' : World} {base : Nat} {E : TypeId} {size : Nat} {v : Value} {n : Nat} {xs : List Value} (h : w.ownsRow base E size v n xs) (hb : Below w.heap.size w w') : w'.ownsRow base E size v n xs := by
  have hlt := h.lt
  obtain ⟨h1, h2⟩ := h
  refine ⟨h1, ?_⟩
  rcases h2 with h2 | ⟨g, cap, cur, hv, hg, hh, r⟩
  · exact Or.inl h2
  · exact Or.inr ⟨g, cap, cur, hv, hg, by rw [hb.block g (hlt g (by rw [hv]; rfl)).2]; exact hh, r⟩
theorem encB_pos (l : List UInt8) : 0 < (WM.encB l).length := by
  have h1 := WM.encN_pos (WM.fold (l.length : Int))
  have : (WM.encI (l.length : Int)).length = (WM.encN (WM.fold (l.length : Int))).length := rfl
  show 0 < (WM.encI (l.length : Int) ++ l).length
  rw [List.length_append]; omega
theorem encB_big (s : ByteArray) (t : Int) (xs : List ByteArray) (k : Nat) (h : k < xs.length) (hs : xs[k] = s) : (ofTo t xs k).length + (WM.encB s.data.toList).length ≤ (ofIn t xs).length := by
  have := ofTo_le t xs (k + 1) h
  rw [ofTo_succ t xs k h, List.length_append, hs] at this
  exact this
theorem encB_size (s : ByteArray) : s.size ≤ (WM.encB s.data.toList).length := by
  show s.size ≤ (WM.encI (s.data.toList.length : Int) ++ s.data.toList).length
  rw [List.length_append, Array.length_toList]
  show s.size ≤ _ + s.size
  omega
theorem str_at {w : World} {A : Option Addr} {xs : List ByteArray} (h : Holds w A (xs.map Value.string)) {k : Nat} (hk : k < xs.length) : ∃ ad, A = some ad ∧ w.cell? (ad.add k) = some (.string xs[k]) := h k _ (by rw [List.getElem?_map, List.getElem?_eq_getElem hk]; rfl)

theorem Tryd.zero44 : (Tryd.prog.info? 23).map (·.zero) = some (some (aggB (SM.zeros 16))) := by kernel_rfl
theorem Tryd.size44 : (Tryd.prog.info? 23).map (·.size) = some 16 := by kernel_rfl
def zero16 : List Value := (SM.zeros 16).map B8
theorem run_sap (g cap : Nat) : ∀ w : World, (Instr.arrayAt 23 (.slice (some ⟨g, 0, none⟩) 16 cap)).run Tryd.prog w = .ok (.pointer (some ⟨g, 0, none⟩)) w := fun w => by
  simp [Instr.arrayAt, run_underlying (P := Tryd.prog) Tryd.underlying23]
def OfRel (_A : Option Addr) (t : Int) (xs : List ByteArray) (_gr : Nat) (_w w1 : World) (v i : Value) (wr : World) : Prop :=
  ∃ k : Nat, k ≤ xs.length ∧ i = .int .i64 k ∧ wr.ownsRow w1.heap.size 5 1 v (ofTo t xs k).length ((ofTo t xs k).map B8) ∧ Below w1.heap.size w1 wr

theorem take16 (S : List UInt8) (h : S.length = 32) : ((S.map B8).drop 0).take ((S.take 16).map B8).length = (S.take 16).map B8 := by
  rw [List.drop_zero, List.length_map, List.length_take, h, List.map_take]
  rfl

set_option maxRecDepth 100000 in
set_option maxHeartbeats 1600000 in
theorem of_any (A : Option Addr) (cap n : Nat) (t : Int) (xs : List ByteArray) (w : World) (hn : n = xs.length) (hn1 : n ≤ 1000000) (hl : (ofIn t xs).length ≤ 1000000000) (HY : Lay w) (hh : Holds w A (xs.map Value.string)) :
    Calls Tryd.prog 37 #[.int .i64 t, .slice A n cap] w fun e w' => e = .returned (.agg (((SM.sum (ofIn t xs)).take 16).map B8).toArray) ∧ Below w.heap.size w w' := by
  obtain ⟨i0, hi, hz0, hz1, hz2⟩ := info_parts Tryd.info8
  have HN := Lib.hid hn
  clear hn
  have htb := Lib.hid (tagB_eq t)
  go_enter Tryd.func37, Tryd.ntmps37
  go_wp2_with (with_reducible refine wpList_alloc (o := ⟨some 4, .alloc 23, _, _, _, _⟩) ?g1 23 ?o1 (aggB (SM.zeros 16)) zero16 ?z1 ?c1 ?_)
  try (case g1 => rfl)
  try (case o1 => rfl)
  try (case z1 => exact Tryd.zero44)
  try (case c1 => rfl)
  intro gr w1 hgr hs1 hb1 hB1
  have hlt0 : w.heap.size ≤ gr := Nat.le_of_eq hgr.out.symm
  have hb : Below w.heap.size w w1 := hb1.mono hlt0
  have hh1 := hh.next hb
  clear hgr hs1 hb1
  go_wp2
  go_loopw [5, 14] (OfRel A t xs gr w w1) (fun _ i _ => xs.length - (intOf i).toNat)
  case atStart =>
    refine ⟨0, Nat.zero_le _, rfl, ?_, below_new w1 _⟩
    have := World.ownsRow_lit (base := w1.heap.size) (e := 5) (size := 1) w1 #[Value.int .u8 (t % 256)] 1 (Nat.le_refl _) (by decide) rfl
    rw [← htb.out] at this ⊢
    exact this
  case round =>
    obtain ⟨k, hk, rfl, hown, hbel⟩ := hrel
    have hN1 : n ≤ xs.length := Nat.le_of_eq HN.out
    have hN2 : xs.length ≤ n := Nat.le_of_eq HN.out.symm
    by_cases hlt : k < xs.length
    · obtain ⟨ad, rfl, hcell⟩ := str_at (hh1.next hbel) hlt
      have hbig := encB_big xs[k] t xs k hlt rfl
      have hsz := encB_size xs[k]
      have hps := encB_pos xs[k].data.toList
      have hsn := Lib.hid (ofTo_succ t xs k hlt)
      generalize xs[k] = sk at hcell hbig hsz hps hsn
      have hb2 := hbel.size
      go_wp2_with fail
      (with_reducible refine (bytes_any sk _ (by omega)).mono ?_)
      rintro e w2 ⟨v2, rfl, hown2, hbw⟩
      obtain ⟨g2, c2, rfl, hcs2⟩ := own_some hown2 hps
      have hown' := own_next hown hbw
      have hbel2 := hbel.trans (hbw.mono hb2)
      have hb3 := hbw.size
      have hlt2 := hown'.lt
      clear hown hbel hbw hown2
      go_wp2_with (at_builtin; refine wpList_append_own _ rfl _ _ 43 rfl w1.heap.size 5 i0 (.int .u8 0) 1 1 Tryd.underlying43 hi hz0 hz1 hz2 rfl (by decide) _ _ _ rfl hown' ⟨g2, 0, none⟩ (WM.encB sk.data.toList).length c2 ((WM.encB sk.data.toList).map B8) rfl ?c1 ?c2 ?c3 ?c4 ?c5 ?c6 ?_)
      case c1 => rw [List.length_map, Nat.mul_one]
      case c2 => exact hcs2
      case c3 => exact B8_one _
      case c4 => unfold maxLen; omega
      case c5 => omega
      case c6 => omega
      intro v3 w3 hown3 hgrow _
      have hbel3 := hbel2.grown hgrow (by omega) (fun j hj => (hlt2 j hj).1)
      rw [← List.map_append, ← List.length_append, ← hsn.out] at hown3
      clear hown' hlt2 hcs2 hgrow hbel2
      go_wp2
      go_roundw
      case rel => exact ⟨k + 1, by omega, by go_num, hown3, hbel3⟩
      case measure => simp [intOf]; omega
    · have hke : k = xs.length := by omega
      rw [hke, ofTo_all] at hown
      have hpos : 0 < (ofIn t xs).length := by unfold ofIn; simp
      obtain ⟨g2, c2, rfl, hcs2⟩ := own_some hown hpos
      have hbelw := hb.trans (hbel.mono hb.size)
      have hBr := hB1.next hbel hB1.lt
      have HY2 := HY.next hbelw
      have hh2 : Holds wr (some ⟨g2, 0, none⟩) ((ofIn t xs).map B8) := fun j u hu => ⟨_, rfl, hcs2 j u hu⟩
      clear hown hbel hb hB1 hke
      obtain ⟨L, hL⟩ : ∃ L, Hid (ofIn t xs = L) := ⟨_, rfl⟩
      rw [hL.out] at hh2 hl
      go_wp2_with fail
      (with_reducible refine (sum_any _ _ _ L _ (by rw [hL.out]) hl HY2 hh2).mono ?_)
      rintro e w4 ⟨rfl, hb4⟩
      have hBr4 := hBr.next hb4 hBr.lt
      have hbel4 := hbelw.trans (hb4.mono hbelw.size)
      clear hBr hbelw hb4 hh2 HY2
      obtain ⟨S, hS⟩ : ∃ S, Hid (SM.sum L = S) := ⟨_, rfl⟩
      have hSl : Hid (S.length = 32) := by rw [← hS.out]; rfl
      rw [hS.out]
      go_wp2_with (with_reducible refine wpList_alloc (o := ⟨some 8, .alloc 76, _, _, _, _⟩) ?g3 76 ?o3 (aggB (SM.zeros 32)) zero32 ?z3 ?c3 ?_)
      try (case g3 => rfl)
      try (case o3 => rfl)
      try (case z3 => exact Tryd.zero24)
      try (case c3 => rfl)
      intro gs w5 hgs hs5 hb5 hB5
      have hlt1 : gr < gs := by have := hBr4.lt; have := hgs.out; omega
      have hBr5 := hBr4.next hb5 hlt1
      have hbel5 := hbel4.trans (hb5.mono (by have := hbel4.size; have := hgs.out; omega))
      clear hBr4 hbel4 hb5 hgs hs5
      go_wp2_with (with_reducible refine wpList_put (o := ⟨none, .store 76 (.tmp 8) (.tmp 24), _, _, _, _⟩) ?g4 76 (.tmp 8) (.tmp 24) ?o4 gs 0 ?x4 (.agg (S.map B8).toArray) ?y4 hB5 (S.map B8) ?v4 ?i4 ?l4 ?q4 ?_)
      try (case y4 => rfl)
      try (case x4 => rfl)
      try (case g4 => rfl)
      try (case o4 => rfl)
      try (case v4 => rfl)
      try (case i4 => exact (by rw [List.length_map, hSl.out]; exact Tryd.size24))
      try (case l4 => (rw [List.length_map, hSl.out]; exact Nat.le_refl _))
      try (case q4 => exact B8_one _)
      intro w6 hu6 hB6
      rw [splice_all _ _ (by rw [List.length_map, hSl.out]; rfl)] at hB6
      have hBr6 := hBr5.upd hu6 (by omega)
      have hbel6 := hbel5.trans (hu6.below (B := w.heap.size) (by omega))
      clear hBr5 hbel5 hu6 hB5
      obtain ⟨D, hD⟩ : ∃ D, Hid (S.take 16 = D) := ⟨_, rfl⟩
      have hDl : Hid ((D.map B8).length = 16) := by have : (D.map B8).length = 16 := by rw [← hD.out, List.length_map, List.length_take, hSl.out]; rfl
                                                    exact this
      have ht16 : Hid (((S.map B8).drop 0).take (D.map B8).length = D.map B8) := by have := take16 S hSl.out
                                                                                    rw [hD.out] at this; exact this
      have hsap := run_sap gs 32
      go_wp2_with (first | (with_reducible refine wpList_cutH (o := ⟨some 25, .slice 76 (.tmp 8) none (some (.const (.int .i64 16))) none, _, _, _, _⟩) ?g5 76 (.tmp 8) (.const (.int .i64 16)) ?o5 gs 0 ?x5 16 ?y5 32 5 ?u5 ?i5 ?k5 ?m5 ?_) | (with_reducible refine wpList_get (o := ⟨some 27, .load 23 (.tmp 26), _, _, _, _⟩) ?g6 23 (.tmp 26) ?o6 gs 0 ?x6 hB6 (D.map B8) ?c6 (.array 16 5) ?u6 ?d6 ?i6 ?_) | (with_reducible refine wpList_put (o := ⟨none, .store 23 (.tmp 4) (.tmp 27), _, _, _, _⟩) ?g7 23 (.tmp 4) (.tmp 27) ?o7 gr 0 ?x7 (.agg (D.map B8).toArray) ?y7 hBr6 (D.map B8) ?v7 ?i7 ?l7 ?q7 ?_))
      try (case x5 => rfl)
      try (case g5 => rfl)
      try (case o5 => rfl)
      try (case y5 => rfl)
      try (case u5 => exact Tryd.underlying76)
      try (case i5 => exact Tryd.size5)
      try (case k5 => omega)
      try (case m5 => decide)
      try (case x6 => rfl)
      try (case g6 => rfl)
      try (case o6 => rfl)
      try (case c6 => (exact ht16.out))
      try (case u6 => exact Tryd.underlying23)
      try (case d6 => first | rfl | assumption)
      try (case i6 => (rw [hDl.out]; exact Tryd.size44))
      try (case y7 => rfl)
      try (case x7 => rfl)
      try (case g7 => rfl)
      try (case o7 => rfl)
      try (case v7 => rfl)
      try (case i7 => exact (by rw [hDl.out]; exact Tryd.size44))
      try (case l7 => (rw [hDl.out]; exact Nat.le_refl _))
      try (case q7 => exact B8_one _)
      intro w7 hu7 hB7
      rw [splice_all _ _ (by rw [hDl.out]; rfl)] at hB7
      have hbel7 := hbel6.trans (hu7.below (B := w.heap.size) (by omega))
      clear hBr6 hbel6 hB6 hu7 hsap
      go_wp2
      refine bodyPost_ret (results_cell_row rfl _ _ gr _ _ _ _ rfl hB7 Tryd.underlying23 rfl (by rw [List.size_toArray, hDl.out]; exact Tryd.size44)) rfl ⟨by rw [hL.out, hS.out, hD.out], hbel7⟩
end Go.Proofs.YtkakiepaffhhjaaDoor

/-
  Contracts of the walks over the reference's Bytes32 and Text. Conditions: none.
-/
namespace Go.Proofs.YtkakiepaffhhjaaDoor
open Go.RowKit

def partB (l : List UInt8) (k : Nat) : List Value := (l.take k).map B8
theorem take_snocB (l : List UInt8) (k : Nat) (h : k < l.length) : partB l (k + 1) = partB l k ++ [B8 (l.getD k 0)] := by
  unfold partB
  rw [List.take_succ_eq_append_getElem h, List.map_append, List.getD_eq_getElem?_getD, List.getElem?_eq_getElem h]
  rfl
theorem one_cellB {w : World} {u : Value} {x : Value} {t : TypeId} {j : Nat} (h : [x][j]? = some u) : (w.alloc (.cells #[x] t)).cell? ((⟨w.heap.size, 0, none⟩ : Addr).add j) = some u := by
  match j, h with
  | 0, h => simp at h; subst h; simp [Addr.add]
def TxRel (l : List UInt8) (_gb : Nat) (w1 : World) (v i : Value) (wr : World) : Prop :=
  ∃ k : Nat, k ≤ 32 ∧ i = .int .i64 k ∧ wr.ownsRow w1.heap.size 5 1 v k (partB l k) ∧ Below w1.heap.size w1 wr
set_option maxRecDepth 100000 in
set_option maxHeartbeats 800000 in
theorem bytes32_any (l : List UInt8) (w : World) (hl : l.length = 32) :
    Calls Tryd.prog 69 #[.agg (l.map B8).toArray] w fun e w' => e = .returned (.string ⟨l.toArray⟩) ∧ Below w.heap.size w w' := by
  obtain ⟨i0, hi, hz0, hz1, hz2⟩ := info_parts Tryd.info8
  have HL := Lib.hid hl
  clear hl
  go_enter Tryd.func69, Tryd.ntmps69
  go_wp2_with (with_reducible refine wpList_box (o := ⟨some 1, .box 76 (.tmp 0), _, _, _, _⟩) ?g1 76 (.tmp 0) ?o1 (.agg (l.map B8).toArray) (l.map B8) ?x1 ?c1 ?_)
  try (case g1 => rfl)
  try (case o1 => rfl)
  try (case x1 => rfl)
  try (case c1 => rfl)
  intro gb w1 hgb hs1 hb1 hB1
  have hb : Below w.heap.size w w1 := hb1.mono (Nat.le_of_eq hgb.out.symm)
  clear hgb hs1 hb1
  go_wp2
  go_loopw [3, 4] (TxRel l gb w1) (fun _ i _ => 32 - (intOf i).toNat)
  case atStart => exact ⟨0, by omega, rfl, World.ownsRow_nil _ _ _ _, Below.refl _ _⟩
  case round =>
    obtain ⟨k, hk, rfl, hown, hbel⟩ := hrel
    by_cases hlt : k < 32
    · have hBr := hB1.next hbel hB1.lt
      have hc := hBr.cell (k := k) (v := B8 (l.getD k 0)) (by rw [List.getElem?_map, List.getD_eq_getElem?_getD, List.getElem?_eq_getElem (by rw [HL.out]; exact hlt)]; rfl)
      have hsn := Lib.hid (take_snocB l k (by rw [HL.out]; exact hlt))
      generalize l.getD k 0 = c at hc hsn
      unfold B8 at hc
      have hsz := hbel.size
      have hlt2 := hown.lt
      go_wp2_with (at_builtin; refine wpList_append_own _ rfl _ _ 43 rfl w1.heap.size 5 i0 (.int .u8 0) 1 1 Tryd.underlying43 hi hz0 hz1 hz2 rfl (by decide) _ _ _ rfl (hown.alloc _) ⟨wr.heap.size, 0, none⟩ 1 1 [.int .u8 (c.toNat : Int)] rfl ?c1 ?c2 ?c3 ?c4 ?c5 ?c6 ?_)
      case c1 => rfl
      case c2 => exact fun j u hu => one_cellB hu
      case c3 => exact one_cell1 rfl
      case c4 => unfold maxLen; omega
      case c5 => omega
      case c6 => simp; omega
      intro v3 w3 hown3 hgrow _
      have hbel3 := (hbel.alloc (by omega) _).grown hgrow (by simp; omega) (fun j hj => (hlt2 j hj).1)
      replace hown3 : w3.ownsRow w1.heap.size 5 1 v3 (k + 1) (partB l k ++ [B8 c]) := hown3
      rw [← hsn.out] at hown3
      clear hown hlt2 hgrow hbel hBr hc
      go_wp2
      go_roundw
      case rel => exact ⟨k + 1, by omega, by go_num, hown3, hbel3⟩
      case measure => simp [intOf]; omega
    · have hke : k = 32 := by omega
      have hta : partB l k = l.map B8 := by unfold partB; rw [List.take_of_length_le (by rw [HL.out]; omega)]
      rw [hta] at hown
      obtain ⟨g2, c2, rfl, hcs2⟩ := own_some hown (by omega)
      have hh : Holds wr (some ⟨g2, 0, none⟩) (l.map B8) := fun j u hu => ⟨_, rfl, hcs2 j u hu⟩
      have hcv := run_conv_later wr (some ⟨g2, 0, none⟩) c2 k l (by rw [HL.out]; exact hke) hh wr (Below.refl _ _)
      have hbelw := hb.trans (hbel.mono hb.size)
      clear hown hbel hh hcs2 hta hke
      go_wp2
      go_ret
      exact ⟨rfl, hbelw⟩
def TxRelD (l : List UInt8) (_gb : Nat) (w1 : World) (v i : Value) (wr : World) : Prop :=
  ∃ k : Nat, k ≤ 16 ∧ i = .int .i64 k ∧ wr.ownsRow w1.heap.size 5 1 v k (partB l k) ∧ Below w1.heap.size w1 wr
set_option maxRecDepth 100000 in
set_option maxHeartbeats 800000 in
theorem text_any (l : List UInt8) (w : World) (hl : l.length = 16) :
    Calls Tryd.prog 36 #[.agg (l.map B8).toArray] w fun e w' => e = .returned (.string ⟨l.toArray⟩) ∧ Below w.heap.size w w' := by
  obtain ⟨i0, hi, hz0, hz1, hz2⟩ := info_parts Tryd.info8
  have HL := Lib.hid hl
  clear hl
  go_enter Tryd.func36, Tryd.ntmps36
  go_wp2_with (with_reducible refine wpList_box (o := ⟨some 1, .box 23 (.tmp 0), _, _, _, _⟩) ?g1 23 (.tmp 0) ?o1 (.agg (l.map B8).toArray) (l.map B8) ?x1 ?c1 ?_)
  try (case g1 => rfl)
  try (case o1 => rfl)
  try (case x1 => rfl)
  try (case c1 => rfl)
  intro gb w1 hgb hs1 hb1 hB1
  have hb : Below w.heap.size w w1 := hb1.mono (Nat.le_of_eq hgb.out.symm)
  clear hgb hs1 hb1
  go_wp2
  go_loopw [3, 4] (TxRelD l gb w1) (fun _ i _ => 16 - (intOf i).toNat)
  case atStart => exact ⟨0, by omega, rfl, World.ownsRow_nil _ _ _ _, Below.refl _ _⟩
  case round =>
    obtain ⟨k, hk, rfl, hown, hbel⟩ := hrel
    by_cases hlt : k < 16
    · have hBr := hB1.next hbel hB1.lt
      have hc := hBr.cell (k := k) (v := B8 (l.getD k 0)) (by rw [List.getElem?_map, List.getD_eq_getElem?_getD, List.getElem?_eq_getElem (by rw [HL.out]; exact hlt)]; rfl)
      have hsn := Lib.hid (take_snocB l k (by rw [HL.out]; exact hlt))
      generalize l.getD k 0 = c at hc hsn
      unfold B8 at hc
      have hsz := hbel.size
      have hlt2 := hown.lt
      go_wp2_with (at_builtin; refine wpList_append_own _ rfl _ _ 43 rfl w1.heap.size 5 i0 (.int .u8 0) 1 1 Tryd.underlying43 hi hz0 hz1 hz2 rfl (by decide) _ _ _ rfl (hown.alloc _) ⟨wr.heap.size, 0, none⟩ 1 1 [.int .u8 (c.toNat : Int)] rfl ?c1 ?c2 ?c3 ?c4 ?c5 ?c6 ?_)
      case c1 => rfl
      case c2 => exact fun j u hu => one_cellB hu
      case c3 => exact one_cell1 rfl
      case c4 => unfold maxLen; omega
      case c5 => omega
      case c6 => simp; omega
      intro v3 w3 hown3 hgrow _
      have hbel3 := (hbel.alloc (by omega) _).grown hgrow (by simp; omega) (fun j hj => (hlt2 j hj).1)
      replace hown3 : w3.ownsRow w1.heap.size 5 1 v3 (k + 1) (partB l k ++ [B8 c]) := hown3
      rw [← hsn.out] at hown3
      clear hown hlt2 hgrow hbel hBr hc
      go_wp2
      go_roundw
      case rel => exact ⟨k + 1, by omega, by go_num, hown3, hbel3⟩
      case measure => simp [intOf]; omega
    · have hke : k = 16 := by omega
      have hta : partB l k = l.map B8 := by unfold partB; rw [List.take_of_length_le (by rw [HL.out]; omega)]
      rw [hta] at hown
      obtain ⟨g2, c2, rfl, hcs2⟩ := own_some hown (by omega)
      have hh : Holds wr (some ⟨g2, 0, none⟩) (l.map B8) := fun j u hu => ⟨_, rfl, hcs2 j u hu⟩
      have hcv := run_conv_later wr (some ⟨g2, 0, none⟩) c2 k l (by rw [HL.out]; exact hke) hh wr (Below.refl _ _)
      have hbelw := hb.trans (hbel.mono hb.size)
      clear hown hbel hh hcs2 hta hke
      go_wp2
      go_ret
      exact ⟨rfl, hbelw⟩
end Go.Proofs.YtkakiepaffhhjaaDoor

/-
  Contracts of the walks over chapter 2's Equal. Conditions: at most 10^9 bytes.
-/
namespace Go.Proofs.YtkakiepaffhhjaaDoor
open Go.RowKit

theorem b8_or (a b : UInt8) : bits .or .u8 (a.toNat : Int) (b.toNat : Int) = ((a ||| b).toNat : Int) := by
  rw [u8_or_nat _ _ a.toNat_lt b.toNat_lt, UInt8.toNat_or]
theorem b8_xor (a b : UInt8) : bits .xor .u8 (a.toNat : Int) (b.toNat : Int) = ((a ^^^ b).toNat : Int) := by
  rw [u8_xor_nat _ _ a.toNat_lt b.toNat_lt, UInt8.toNat_xor]
theorem or_eq_zero (a b : UInt8) : (a ||| b = 0) ↔ a = 0 ∧ b = 0 := by
  constructor
  · intro h
    have h2 : (a.toBitVec ||| b.toBitVec) = 0#8 := congrArg UInt8.toBitVec h
    have h3 : a.toBitVec = 0#8 ∧ b.toBitVec = 0#8 := by
      constructor
      · apply BitVec.eq_of_getLsbD_eq; intro i hi
        have := congrArg (fun v => v.getLsbD i) h2
        simp at this
        simp [this.1]
      · apply BitVec.eq_of_getLsbD_eq; intro i hi
        have := congrArg (fun v => v.getLsbD i) h2
        simp at this
        simp [this.2]
    exact ⟨UInt8.toBitVec_inj.1 h3.1, UInt8.toBitVec_inj.1 h3.2⟩
  · rintro ⟨rfl, rfl⟩; rfl
theorem xor_eq_zero (a b : UInt8) : (a ^^^ b = 0) ↔ a = b := by
  constructor
  · intro h
    have : (a ^^^ b) ^^^ b = 0 ^^^ b := by rw [h]
    rw [UInt8.xor_assoc, UInt8.xor_self, UInt8.xor_zero, UInt8.zero_xor] at this
    exact this
  · rintro rfl; exact UInt8.xor_self
/-- What the loop of Equal has found after k bytes. -/
def EqRel (a b : List UInt8) (d i : Value) (wr w : World) : Prop :=
  ∃ (k : Nat) (x : UInt8), k ≤ a.length ∧ i = .int .i64 k ∧ d = .int .u8 (x.toNat : Int) ∧ Hid (x = 0 ↔ a.take k = b.take k) ∧ Below w.heap.size w wr
theorem byte_of_str (s : ByteArray) (k : Nat) (h : k < s.size) : s[k]? = some (s.data.toList.getD k 0) := by
  rw [List.getD_eq_getElem?_getD, Array.getElem?_toList]
  have h' : k < s.data.size := h
  rw [getElem?_pos s k h, Array.getElem?_eq_getElem h']
  rfl

theorem getD_byte (s : ByteArray) (k : Nat) (h : k < s.size) : s.data.toList.getD k 0 = s[k] := by
  have h' : k < s.data.size := h
  rw [List.getD_eq_getElem?_getD, Array.getElem?_toList, Array.getElem?_eq_getElem h']
  rfl
theorem take_succ_iff (a b : List UInt8) (k : Nat) (h1 : k < a.length) (h2 : k < b.length) : a.take (k + 1) = b.take (k + 1) ↔ a.take k = b.take k ∧ a.getD k 0 = b.getD k 0 := by
  rw [List.take_succ_eq_append_getElem h1, List.take_succ_eq_append_getElem h2, List.getD_eq_getElem?_getD, List.getD_eq_getElem?_getD, List.getElem?_eq_getElem h1, List.getElem?_eq_getElem h2]
  constructor
  · intro h
    have := List.append_inj h (by rw [List.length_take, List.length_take]; omega)
    exact ⟨this.1, by simpa using this.2⟩
  · rintro ⟨e1, e2⟩
    rw [e1]; simp at e2; rw [e2]
end Go.Proofs.YtkakiepaffhhjaaDoor

/-
  Contracts of the walks over the statements' own hex. Conditions: at most 10^8 bytes.
-/
namespace Go.Proofs.YtkakiepaffhhjaaDoor
open Go.RowKit

def digs : List UInt8 := [48, 49, 50, 51, 52, 53, 54, 55, 56, 57, 97, 98, 99, 100, 101, 102]
def hexTo (l : List UInt8) (k : Nat) : List UInt8 := (l.take k).flatMap fun c => [digs.getD (c.toNat / 16) 0, digs.getD (c.toNat % 16) 0]
def hexL (l : List UInt8) : List UInt8 := l.flatMap fun c => [digs.getD (c.toNat / 16) 0, digs.getD (c.toNat % 16) 0]
theorem hexTo_length (l : List UInt8) (k : Nat) (h : k ≤ l.length) : (hexTo l k).length = 2 * k := by
  induction k with
  | zero => rfl
  | succ n ih =>
    have : hexTo l (n + 1) = hexTo l n ++ [digs.getD ((l[n]'(by omega)).toNat / 16) 0, digs.getD ((l[n]'(by omega)).toNat % 16) 0] := by
      unfold hexTo
      rw [List.take_succ_eq_append_getElem (by omega), List.flatMap_append]
      simp only [List.flatMap_cons, List.flatMap_nil, List.append_nil]
    rw [this, List.length_append, ih (by omega)]
    simp; omega
theorem hexTo_snoc (l : List UInt8) (k : Nat) (h : k < l.length) : (hexTo l (k + 1)).map B8 = (hexTo l k).map B8 ++ [B8 (digs.getD (l[k].toNat / 16) 0), B8 (digs.getD (l[k].toNat % 16) 0)] := by
  unfold hexTo
  rw [List.take_succ_eq_append_getElem h, List.flatMap_append, List.map_append]
  simp only [List.flatMap_cons, List.flatMap_nil, List.append_nil, List.map_cons, List.map_nil]
theorem step_append_own {P : Program} {ops : Array Oper} {o : Oper} {a : Act} {w : World} {K : Act → World → Prop} {Q : Exit → Act → World → Prop} {E : Prop}
    (hg : o.guard = none) (s x : Operand) (t : TypeId) (ho : o.op = .call { callee := .builtin .append, args := #[s, x], argTypes := #[t, t] })
    (base : Nat) (e : TypeId) (i : TypeInfo) (z : Value) (size bytes : Nat) (ht : P.underlying t = some (.slice e)) (hi : P.info? e = some i) (hz : i.zero = some z)
    (hsize : i.size = size) (hby : i.bytes = bytes) (hzs : z.cells.size = size) (hsz : 0 < size)
    (v : Value) (n : Nat) (xs : List Value) (hs : a.eval s = v) (hown : w.ownsRow base e size v n xs)
    (ad : Addr) (m c : Nat) (news : List Value) (hx : a.eval x = .slice (some ad) m c) (hl : news.length = m * size) (hnews : ∀ j u, news[j]? = some u → w.cell? (ad.add j) = some u) (h1 : ∀ u ∈ news, u.oneCell' = true)
    (h63 : n + m ≤ maxLen) (hbytes : (n + m) * bytes ≤ 140737488355328) (hbase : base ≤ w.heap.size)
    (h : ∀ v' w', w'.ownsRow base e size v' (n + m) (xs ++ news) → w.grownBy w' v.ownBlock → (v' = .slice none 0 0 ↔ v = .slice none 0 0 ∧ m = 0) → K (a.put o.dst v') w') :
    if Region.wanted o (yielded ops a.tmps) = true then Oper.wp P o a w K Q else E := by
  have hw : Region.wanted o (yielded ops a.tmps) = true := by simp [Region.wanted, hg]
  rw [if_pos hw]
  exact wp_append_own w s x t ho base e i z size bytes ht hi hz hsize hby hzs hsz v n xs hs hown ad m c news hx hl hnews h1 h63 hbytes hbase h
theorem dig_at (n : Nat) (h : n < 16) (h' : n < ({ data := #[48, 49, 50, 51, 52, 53, 54, 55, 56, 57, 97, 98, 99, 100, 101, 102] } : ByteArray).size) : (({ data := #[48, 49, 50, 51, 52, 53, 54, 55, 56, 57, 97, 98, 99, 100, 101, 102] } : ByteArray)[n]'h') = digs.getD n 0 := by
  have : ∀ m : Fin 16, (({ data := #[48, 49, 50, 51, 52, 53, 54, 55, 56, 57, 97, 98, 99, 100, 101, 102] } : ByteArray)[m.1]'m.2) = digs.getD m.1 0 := by decide
  exact this ⟨n, h⟩
theorem two_cells {w : World} {x y u : Value} {t : TypeId} {j : Nat} (h : [x, y][j]? = some u) : (w.alloc (.cells #[x, y] t)).cell? ((⟨w.heap.size, 0, none⟩ : Addr).add j) = some u := by
  have hb := blk_new w t [x, y]
  rw [addr_mid, Nat.zero_add]
  exact hb.cell h
def HxRel (l : List UInt8) (w : World) (v i : Value) (wr : World) : Prop :=
  ∃ k : Nat, k ≤ l.length ∧ i = .int .i64 k ∧ wr.ownsRow w.heap.size 5 1 v (2 * k) ((hexTo l k).map B8) ∧ Below w.heap.size w wr

































































end Go.Proofs.YtkakiepaffhhjaaDoor

/-
  Contracts of the walks over chapter 2's Mac. Conditions: at most 10^9 bytes less 100; the tables read as the document has them.
-/
namespace Go.Proofs.YtkakiepaffhhjaaDoor
open Go.RowKit

/-- The key of a code, of 64 bytes. -/
def keyBlk (key : List UInt8) : List UInt8 := if 64 < key.length then SM.sum key ++ SM.zeros 32 else key ++ SM.zeros (64 - key.length)
def mac (key text : List UInt8) : List UInt8 := SM.sum ((keyBlk key).map (· ^^^ 92) ++ SM.sum ((keyBlk key).map (· ^^^ 54) ++ text))
theorem keyBlk_length (key : List UInt8) : (keyBlk key).length = 64 := by
  unfold keyBlk
  split
  · rfl
  · rw [List.length_append, SM.zeros_length]; omega
theorem Tryd.zero31 : (Tryd.prog.info? 84).map (·.zero) = some (some (aggB (SM.zeros 64))) := by kernel_rfl
def zero64 : List Value := (SM.zeros 64).map B8
theorem add_raw (m l : List UInt8) (w : World) (hl : m.length + l.length ≤ 1000000000) (HY : Lay w) :
    Calls Tryd.prog 65 #[.agg (SVc m).toArray, .string ⟨l.toArray⟩] w fun e w' => e = .returned (.agg (SVc (m ++ l)).toArray) ∧ Below w.heap.size w w' := by
  have := add_any m ⟨l.toArray⟩ w (by rw [str_size]; exact hl) HY
  rw [str_toList] at this
  exact this
theorem add_start (s : ByteArray) (w : World) (hl : s.size ≤ 1000000000) (HY : Lay w) :
    Calls Tryd.prog 65 #[.agg (strmC SM.start (SM.zeros 64) 0).toArray, .string s] w fun e w' => e = .returned (.agg (SVc s.data.toList).toArray) ∧ Below w.heap.size w w' := by
  have := add_any [] s w (by simpa using hl) HY
  rw [List.nil_append] at this
  exact this

theorem add_text (m : List UInt8) (s : ByteArray) (w : World) (hl : m.length + s.size ≤ 1000000000) (HY : Lay w) :
    Calls Tryd.prog 65 #[.agg (SVc m).toArray, .string s] w fun e w' => e = .returned (.agg (SVc (m ++ s.data.toList)).toArray) ∧ Below w.heap.size w w' := add_any m s w hl HY
theorem keyed_to (l : List UInt8) (p : UInt8) (pi : Int) (r : List UInt8) (w : World) (hp : pi = (p.toNat : Int)) (hr : Hid (l.map (· ^^^ p) = r)) (hl : l.length = 64) (HY : Lay w) :
    Calls Tryd.prog 67 #[.agg (l.map B8).toArray, .int .u8 pi] w fun e w' => e = .returned (.agg (SVc r).toArray) ∧ Below w.heap.size w w' := by
  subst hp; rw [← hr.out]; exact keyed_any l p w hl HY
theorem run_loadRow {P : Program} (g : Nat) (t ty : TypeId) (d : TypeDesc) (l : List Value) (n : Nat) (hu : P.underlying ty = some d) (hd : d.isRow = true) (hi : (P.info? ty).map (·.size) = some n) (hn : l.length = n) (w0 : World) (hg : g < w0.heap.size) (hb : Blk w0 g t l) :
    ∀ w, Below w0.heap.size w0 w → (Instr.loadAt ty (.pointer (some ⟨g, 0, none⟩))).run P w = .ok (.agg l.toArray) w := fun w hw => by
  have hb' := hb.next hw hg
  exact run_loadAt_mid w g 0 ty l d (fun j v hv => by rw [Nat.zero_add]; exact hb'.cell hv) hu hd (by rw [hn]; exact hi)
theorem blk_range {w : World} {g : Nat} {t : TypeId} {l : List Value} (h : Blk w g t l) : w.rangeAt g 0 l := fun j v hv => by rw [Nat.zero_add]; exact h.cell hv
theorem below_alloc {a b : World} (h : Below a.heap.size a b) (o : Obj) : Below a.heap.size a (b.alloc o) := h.alloc h.size o
theorem below_setCells {B : Nat} {a : World} (g : Nat) (hg : B ≤ g) : ∀ (vs : List Value) (o : Nat) {b : World}, Below B a b → Below B a (b.setCells g o vs)
  | [], _, _, h => h
  | v :: r, o, _, h => below_setCells g hg r (o + 1) (h.setCell (p := ⟨g, o, none⟩) hg v)
theorem below_newset {a b : World} (h : Below a.heap.size a b) (o : Obj) (vs : List Value) : Below a.heap.size a ((b.alloc o).setCells b.heap.size 0 vs) := below_setCells _ h.size vs 0 (below_alloc h o)
theorem there_new (w : World) (F : List UInt8) (hF : F.length = 32) (t : TypeId) : (w.alloc (.cells #[Value.int IntKind.u8 0, Value.int IntKind.u8 0, Value.int IntKind.u8 0, Value.int IntKind.u8 0, Value.int IntKind.u8 0, Value.int IntKind.u8 0, Value.int IntKind.u8 0, Value.int IntKind.u8 0, Value.int IntKind.u8 0, Value.int IntKind.u8 0, Value.int IntKind.u8 0, Value.int IntKind.u8 0, Value.int IntKind.u8 0, Value.int IntKind.u8 0, Value.int IntKind.u8 0, Value.int IntKind.u8 0, Value.int IntKind.u8 0, Value.int IntKind.u8 0, Value.int IntKind.u8 0, Value.int IntKind.u8 0, Value.int IntKind.u8 0, Value.int IntKind.u8 0, Value.int IntKind.u8 0, Value.int IntKind.u8 0, Value.int IntKind.u8 0, Value.int IntKind.u8 0, Value.int IntKind.u8 0, Value.int IntKind.u8 0, Value.int IntKind.u8 0, Value.int IntKind.u8 0, Value.int IntKind.u8 0, Value.int IntKind.u8 0] t)).there w.heap.size 0 (List.map B8 F).length := fun j hj => by
  rw [List.length_map, hF] at hj
  have hb := blk_new w t (List.replicate 32 (Value.int IntKind.u8 0))
  have hg : (List.replicate 32 (Value.int IntKind.u8 0))[j]? = some (Value.int IntKind.u8 0) := by rw [List.getElem?_replicate, if_pos hj]
  rw [Nat.zero_add]
  exact ⟨by rw [show (w.alloc (.cells #[Value.int IntKind.u8 0, Value.int IntKind.u8 0, Value.int IntKind.u8 0, Value.int IntKind.u8 0, Value.int IntKind.u8 0, Value.int IntKind.u8 0, Value.int IntKind.u8 0, Value.int IntKind.u8 0, Value.int IntKind.u8 0, Value.int IntKind.u8 0, Value.int IntKind.u8 0, Value.int IntKind.u8 0, Value.int IntKind.u8 0, Value.int IntKind.u8 0, Value.int IntKind.u8 0, Value.int IntKind.u8 0, Value.int IntKind.u8 0, Value.int IntKind.u8 0, Value.int IntKind.u8 0, Value.int IntKind.u8 0, Value.int IntKind.u8 0, Value.int IntKind.u8 0, Value.int IntKind.u8 0, Value.int IntKind.u8 0, Value.int IntKind.u8 0, Value.int IntKind.u8 0, Value.int IntKind.u8 0, Value.int IntKind.u8 0, Value.int IntKind.u8 0, Value.int IntKind.u8 0, Value.int IntKind.u8 0, Value.int IntKind.u8 0] t)).cell? ⟨w.heap.size, j, none⟩ = some _ from hb.cell hg]; rfl, hb.frozen j⟩
theorem there_next {w w' : World} {g n : Nat} (h : w.there g 0 n) (hb : Below w.heap.size w w') : w'.there g 0 n := fun j hj => by
  obtain ⟨h1, h2⟩ := h j hj
  obtain ⟨v, hv⟩ := Option.isSome_iff_exists.1 h1
  have hg := World.block_lt_of_cell? w _ hv
  exact ⟨by rw [hb.cell hg]; exact h1, by rw [hb.frozen hg]; exact h2⟩
theorem there_call {w w' : World} (F : List UInt8) (hF : F.length = 32) {t : TypeId} (hb : Below (w.alloc (.cells #[Value.int IntKind.u8 0, Value.int IntKind.u8 0, Value.int IntKind.u8 0, Value.int IntKind.u8 0, Value.int IntKind.u8 0, Value.int IntKind.u8 0, Value.int IntKind.u8 0, Value.int IntKind.u8 0, Value.int IntKind.u8 0, Value.int IntKind.u8 0, Value.int IntKind.u8 0, Value.int IntKind.u8 0, Value.int IntKind.u8 0, Value.int IntKind.u8 0, Value.int IntKind.u8 0, Value.int IntKind.u8 0, Value.int IntKind.u8 0, Value.int IntKind.u8 0, Value.int IntKind.u8 0, Value.int IntKind.u8 0, Value.int IntKind.u8 0, Value.int IntKind.u8 0, Value.int IntKind.u8 0, Value.int IntKind.u8 0, Value.int IntKind.u8 0, Value.int IntKind.u8 0, Value.int IntKind.u8 0, Value.int IntKind.u8 0, Value.int IntKind.u8 0, Value.int IntKind.u8 0, Value.int IntKind.u8 0, Value.int IntKind.u8 0] t)).heap.size (w.alloc (.cells #[Value.int IntKind.u8 0, Value.int IntKind.u8 0, Value.int IntKind.u8 0, Value.int IntKind.u8 0, Value.int IntKind.u8 0, Value.int IntKind.u8 0, Value.int IntKind.u8 0, Value.int IntKind.u8 0, Value.int IntKind.u8 0, Value.int IntKind.u8 0, Value.int IntKind.u8 0, Value.int IntKind.u8 0, Value.int IntKind.u8 0, Value.int IntKind.u8 0, Value.int IntKind.u8 0, Value.int IntKind.u8 0, Value.int IntKind.u8 0, Value.int IntKind.u8 0, Value.int IntKind.u8 0, Value.int IntKind.u8 0, Value.int IntKind.u8 0, Value.int IntKind.u8 0, Value.int IntKind.u8 0, Value.int IntKind.u8 0, Value.int IntKind.u8 0, Value.int IntKind.u8 0, Value.int IntKind.u8 0, Value.int IntKind.u8 0, Value.int IntKind.u8 0, Value.int IntKind.u8 0, Value.int IntKind.u8 0, Value.int IntKind.u8 0] t)) w') : w'.there w.heap.size 0 (List.map B8 F).length := there_next (there_new w F hF t) hb
theorem there_callD {w w' : World} (F : List UInt8) (hF : F.length = 32) {t : TypeId} (hb : Below (w.drew.alloc (.cells #[Value.int IntKind.u8 0, Value.int IntKind.u8 0, Value.int IntKind.u8 0, Value.int IntKind.u8 0, Value.int IntKind.u8 0, Value.int IntKind.u8 0, Value.int IntKind.u8 0, Value.int IntKind.u8 0, Value.int IntKind.u8 0, Value.int IntKind.u8 0, Value.int IntKind.u8 0, Value.int IntKind.u8 0, Value.int IntKind.u8 0, Value.int IntKind.u8 0, Value.int IntKind.u8 0, Value.int IntKind.u8 0, Value.int IntKind.u8 0, Value.int IntKind.u8 0, Value.int IntKind.u8 0, Value.int IntKind.u8 0, Value.int IntKind.u8 0, Value.int IntKind.u8 0, Value.int IntKind.u8 0, Value.int IntKind.u8 0, Value.int IntKind.u8 0, Value.int IntKind.u8 0, Value.int IntKind.u8 0, Value.int IntKind.u8 0, Value.int IntKind.u8 0, Value.int IntKind.u8 0, Value.int IntKind.u8 0, Value.int IntKind.u8 0] t)).heap.size (w.drew.alloc (.cells #[Value.int IntKind.u8 0, Value.int IntKind.u8 0, Value.int IntKind.u8 0, Value.int IntKind.u8 0, Value.int IntKind.u8 0, Value.int IntKind.u8 0, Value.int IntKind.u8 0, Value.int IntKind.u8 0, Value.int IntKind.u8 0, Value.int IntKind.u8 0, Value.int IntKind.u8 0, Value.int IntKind.u8 0, Value.int IntKind.u8 0, Value.int IntKind.u8 0, Value.int IntKind.u8 0, Value.int IntKind.u8 0, Value.int IntKind.u8 0, Value.int IntKind.u8 0, Value.int IntKind.u8 0, Value.int IntKind.u8 0, Value.int IntKind.u8 0, Value.int IntKind.u8 0, Value.int IntKind.u8 0, Value.int IntKind.u8 0, Value.int IntKind.u8 0, Value.int IntKind.u8 0, Value.int IntKind.u8 0, Value.int IntKind.u8 0, Value.int IntKind.u8 0, Value.int IntKind.u8 0, Value.int IntKind.u8 0, Value.int IntKind.u8 0] t)) w') : w'.there w.heap.size 0 (List.map B8 F).length := there_call (w := w.drew) F hF hb
theorem new_ge {a b b' : World} {o : Obj} (h : Below a.heap.size a b) (_hb : Below (b.alloc o).heap.size (b.alloc o) b') : a.heap.size ≤ b.heap.size := h.size
theorem below_put {a b : World} {g : Nat} (h : Below a.heap.size a b) (hg : a.heap.size ≤ g) (vs : List Value) : Below a.heap.size a (b.setCells g 0 vs) := below_setCells g hg vs 0 h
theorem run_storeNew {P : Program} (t : TypeId) (c : Array Value) (F : List UInt8) (hF : F.length = 32) (hi : (P.info? t).map (·.size) = some F.length) (hc : c.size = 32) :
    ∀ w : World, (storeCells ⟨w.heap.size, 0, none⟩ (F.map B8)).run P (w.alloc (.cells c t)) = .ok () (w.alloc (.cells (F.map B8).toArray t)) := fun w => by
  have := run_storeCells_new (P := P) w t c (F.map B8).toArray (by simpa using hi) (by simp; omega) (all_oneCell_toArray (B8_one F))
  simpa using this
theorem ssum_to (l F : List UInt8) (w : World) (hF : Hid (SM.sum l = F)) (hl : l.length ≤ 1000000000) (HY : Lay w) :
    Calls Tryd.prog 66 #[.agg (SVc l).toArray] w fun e w' => e = .returned (.agg (F.map B8).toArray) ∧ Below w.heap.size w w' := by
  rw [← hF.out]; exact ssum_any l w hl HY
theorem run_copy_blk (w : World) (gk gs n m : Nat) {t t' : TypeId} {l cs : List Value} (hk : Blk w gk t l) (hs : Blk w gs t' cs) (hm : cs.length = m) (hn : m ≤ n) (hl : m ≤ l.length) (h1 : ∀ u ∈ cs, u.oneCell' = true) :
    (Builtin.copy_ #[43, 43] 3 #[.slice (some ⟨gk, 0, none⟩) n n, .slice (some ⟨gs, 0, none⟩) m m]).run Tryd.prog w = .ok (goInt cs.length) (w.setRow gk (splice l 0 cs).toArray) := by
  have := run_copy_row (P := Tryd.prog) w 43 43 3 5 gk 0 n n ⟨gs, 0, none⟩ m m l.toArray t cs Tryd.underlying43 Tryd.size5 hk (by rw [hm]; exact (Nat.min_eq_left hn).symm) (fun j v hv => by rw [addr_mid, Nat.zero_add]; exact hs.cell hv) (by simp; omega) h1
  rw [this]
  simp [splice]
theorem copy_row (S : List UInt8) (h : S.length = 32) : splice zero64 0 (S.map B8) = (S ++ SM.zeros 32).map B8 := by
  have e := splice_tail [] (SM.zeros 64) S 64 rfl (by omega)
  rw [List.nil_append, List.length_nil, List.nil_append, h] at e
  rw [← e]
  unfold splice zero64; simp [List.map_drop]
theorem fin_eq {a X W : World} {g : Nat} {vs : List Value} (hW : X.setCells g 0 vs = W) (ht : X.there g 0 vs.length) (hb : Below a.heap.size a X) (hg : a.heap.size ≤ g) : Holds W (some ⟨g, 0, none⟩) vs ∧ Below a.heap.size a W := by
  subst hW
  refine ⟨fun j u hu => ⟨_, rfl, ?_⟩, below_put hb hg vs⟩
  rw [addr_mid]
  exact World.rangeAt_setCells_same X g 0 vs ht j u hu
theorem keyed_lit (l : List UInt8) (p : UInt8) (pi : Int) (w : World) (hp : pi = (p.toNat : Int)) (hl : l.length = 64) (HY : Lay w) :
    Calls Tryd.prog 67 #[.agg (l.map B8).toArray, .int .u8 pi] w fun e w' => e = .returned (.agg (SVc (l.map (· ^^^ p))).toArray) ∧ Below w.heap.size w w' := by
  subst hp; exact keyed_any l p w hl HY

set_option maxRecDepth 100000 in
set_option maxHeartbeats 1600000 in
theorem mac_any (key text : ByteArray) (w : World) (hk : key.size ≤ 900000000) (ht : text.size ≤ 900000000) (HY : Lay w) :
    Calls Tryd.prog 52 #[.string key, .string text] w fun e w' => e = .returned (.string ⟨(mac key.data.toList text.data.toList).toArray⟩) ∧ Below w.heap.size w w' := by
  have hkl : Hid (key.data.toList.length = key.size) := bytes_size key
  have htl : Hid (text.data.toList.length = text.size) := bytes_size text
  go_enter Tryd.func52, Tryd.ntmps52
  go_wp2_with (with_reducible refine wpList_alloc (o := ⟨some 5, .alloc 84, _, _, _, _⟩) ?g1 84 ?o1 (aggB (SM.zeros 64)) zero64 ?z1 ?c1 ?_)
  try (case g1 => rfl)
  try (case o1 => rfl)
  try (case z1 => exact Tryd.zero31)
  try (case c1 => rfl)
  intro gk w1 hgk hs1 hb1 hB1
  have hlt0 : w.heap.size ≤ gk := Nat.le_of_eq hgk.out.symm
  have hb : Below w.heap.size w w1 := hb1.mono hlt0
  have HY1 := HY.next hb
  clear hgk hs1 hb1
  by_cases h64 : 64 < key.size
  · go_wp2_with fail
    (with_reducible refine (begin_any _ HY1).mono ?_)
    rintro e w2 ⟨rfl, hb2⟩
    have hBk2 := hB1.next hb2 hB1.lt
    have hbel2 := hb.trans (hb2.mono hb.size)
    have HY2 := HY1.next hb2
    clear hB1 hb hb2 HY1
    go_wp2_with fail
    (with_reducible refine (add_start key _ (by omega) HY2).mono ?_)
    rintro e w3 ⟨rfl, hb3⟩
    have hBk3 := hBk2.next hb3 hBk2.lt
    have hbel3 := hbel2.trans (hb3.mono hbel2.size)
    have HY3 := HY2.next hb3
    clear hBk2 hbel2 hb3 HY2
    go_wp2_with fail
    (with_reducible refine (ssum_any key.data.toList _ (by rw [hkl.out]; omega) HY3).mono ?_)
    rintro e w4 ⟨rfl, hb4⟩
    have hBk4 := hBk3.next hb4 hBk3.lt
    have hbel4 := hbel3.trans (hb4.mono hbel3.size)
    clear hBk3 hbel3 hb4 HY3
    have hKB : Hid (keyBlk key.data.toList = SM.sum key.data.toList ++ SM.zeros 32) := by
      have : keyBlk key.data.toList = SM.sum key.data.toList ++ SM.zeros 32 := by unfold keyBlk; rw [if_pos (by rw [hkl.out]; exact h64)]
      exact this
    obtain ⟨S, hS⟩ : ∃ S, Hid (SM.sum key.data.toList = S) := ⟨_, rfl⟩
    have hSl : Hid (S.length = 32) := by rw [← hS.out]; rfl
    rw [hS.out] at hKB ⊢
    go_wp2_with (first | (with_reducible refine wpList_alloc (o := ⟨some 6, .alloc 76, _, _, _, _⟩) ?g2 76 ?o2 (aggB (SM.zeros 32)) zero32 ?z2 ?c2 ?_))
    try (case g2 => rfl)
    try (case o2 => rfl)
    try (case z2 => exact Tryd.zero24)
    try (case c2 => rfl)
    intro gs w5 hgs hs5 hb5 hB5
    have hlt1 : gk < gs := by have := hBk4.lt; have := hgs.out; omega
    have hBk5 := hBk4.next hb5 hlt1
    have hbel5 := hbel4.trans (hb5.mono (by have := hbel4.size; have := hgs.out; omega))
    clear hBk4 hbel4 hb5 hgs hs5
    go_wp2_with (with_reducible refine wpList_put (o := ⟨none, .store 76 (.tmp 6) (.tmp 15), _, _, _, _⟩) ?g3 76 (.tmp 6) (.tmp 15) ?o3 gs 0 ?x3 (.agg (S.map B8).toArray) ?y3 hB5 (S.map B8) ?v3 ?i3 ?l3 ?q3 ?_)
    try (case y3 => rfl)
    try (case x3 => rfl)
    try (case g3 => rfl)
    try (case o3 => rfl)
    try (case v3 => rfl)
    try (case i3 => exact (by rw [List.length_map, hSl.out]; exact Tryd.size24))
    try (case l3 => (rw [List.length_map, hSl.out]; exact Nat.le_refl _))
    try (case q3 => exact B8_one _)
    intro w6 hu6 hB6
    rw [splice_all _ _ (by rw [List.length_map, hSl.out]; rfl)] at hB6
    have hBk6 := hBk5.upd hu6 (by omega)
    have hbel6 := hbel5.trans (hu6.below (B := w.heap.size) (by omega))
    clear hBk5 hbel5 hu6 hB5
    have hcut := run_cutAll (P := Tryd.prog) 84 5 64 Tryd.underlying84 Tryd.size5 (by decide) gk 0
    have hcut2 := run_cutAll (P := Tryd.prog) 76 5 32 Tryd.underlying76 Tryd.size5 (by decide) gs 0
    have hcopy := run_copy_blk w6.drew gk gs 64 32 hBk6 hB6 (by rw [List.length_map, hSl.out]) (by decide) (by decide) (B8_one _)
    rw [copy_row S hSl.out, List.length_map, hSl.out] at hcopy
    obtain ⟨X, hX⟩ : ∃ X, Hid (S ++ SM.zeros 32 = X) := ⟨_, rfl⟩
    rw [hX.out] at hcopy hKB
    go_wp2
    go_region_with (fail)
    have hB7 := blk_setRow (w := w6.drew) (t := 84) (l := zero64) hBk6 (X.map B8)
    have hbel7 : Below w.heap.size w (w6.drew.setRow gk (X.map B8).toArray) := (hbel6.trans (Below.refl _ _).drew).trans ((upd_setRow w6.drew gk _).below hlt0)
    generalize w6.drew.setRow gk (X.map B8).toArray = w7 at hB7 hbel7 ⊢
    rw [← hKB.out] at hB7
    clear hcut hcut2 hcopy hBk6 hbel6 hB6
    have HY7 := HY.next hbel7
    obtain ⟨q, hq⟩ : ∃ q, Hid (keyBlk key.data.toList = q) := ⟨_, rfl⟩
    have hql : Hid (q.length = 64) := by rw [← hq.out]; exact keyBlk_length _
    rw [hq.out] at hB7
    go_wp2_with (with_reducible refine wpList_get (o := ⟨some 22, .load 84 (.tmp 5), _, _, _, _⟩) ?g6a 84 (.tmp 5) ?o6a gk 0 ?x6a hB7 (q.map B8) ?c6a (.array 64 5) ?u6a ?d6a ?i6a ?_)
    try (case x6a => rfl)
    try (case g6a => rfl)
    try (case o6a => rfl)
    try (case c6a => (exact cs_all _))
    try (case u6a => exact Tryd.underlying84)
    try (case d6a => first | rfl | assumption)
    try (case i6a => (rw [List.length_map, hql.out]; exact Tryd.size31))
    go_wp2_with fail
    (with_reducible refine (keyed_lit q 54 54 _ rfl hql.out HY7).mono ?_)
    rintro e w8 ⟨rfl, hb8⟩
    have hB8' := hB7.next hb8 hB7.lt
    have hbel8 := hbel7.trans (hb8.mono hbel7.size)
    have HY8 := HY7.next hb8
    clear hB7 hbel7 hb8 HY7
    obtain ⟨i1, hi1⟩ : ∃ i1 : List UInt8, Hid (q.map (fun x : UInt8 => x ^^^ 54) = i1) := ⟨_, rfl⟩
    have hi1l : Hid (i1.length = 64) := by rw [← hi1.out]; rw [List.length_map]; exact hql
    rw [hi1.out]
    go_wp2_with fail
    (with_reducible refine (add_text i1 text _ (by rw [hi1l.out]; omega) HY8).mono ?_)
    rintro e w9 ⟨rfl, hb9⟩
    have hB9 := hB8'.next hb9 hB8'.lt
    have hbel9 := hbel8.trans (hb9.mono hbel8.size)
    have HY9 := HY8.next hb9
    clear hB8' hbel8 hb9 HY8
    have hml : (i1 ++ text.data.toList).length ≤ 1000000000 := by rw [List.length_append, hi1l.out, htl.out]; omega
    go_wp2_with fail
    (with_reducible refine (ssum_any (i1 ++ text.data.toList) _ hml HY9).mono ?_)
    rintro e w10 ⟨rfl, hb10⟩
    have hB10 := hB9.next hb10 hB9.lt
    have hbel10 := hbel9.trans (hb10.mono hbel9.size)
    have HY10 := HY9.next hb10
    clear hB9 hbel9 hb10 HY9 hml
    obtain ⟨T, hT⟩ : ∃ T, Hid (SM.sum (i1 ++ text.data.toList) = T) := ⟨_, rfl⟩
    have hTl : Hid (T.length = 32) := by rw [← hT.out]; rfl
    rw [hT.out]
    go_wp2_with (with_reducible refine wpList_alloc (o := ⟨some 7, .alloc 76, _, _, _, _⟩) ?g7a 76 ?o7a (aggB (SM.zeros 32)) zero32 ?z7a ?c7a ?_)
    try (case g7a => rfl)
    try (case o7a => rfl)
    try (case z7a => exact Tryd.zero24)
    try (case c7a => rfl)
    intro gt w11 hgt hs11 hb11 hB11
    have hlt11 : gk < gt := by have := hB10.lt; have := hgt.out; omega
    have hBk11 := hB10.next hb11 hlt11
    have hbel11 := hbel10.trans (hb11.mono (by have := hbel10.size; have := hgt.out; omega))
    clear hB10 hbel10 hb11 hgt hs11
    go_wp2_with (with_reducible refine wpList_put (o := ⟨none, .store 76 (.tmp 7) (.tmp 26), _, _, _, _⟩) ?g8a 76 (.tmp 7) (.tmp 26) ?o8a gt 0 ?x8a (.agg (T.map B8).toArray) ?y8a hB11 (T.map B8) ?v8a ?i8a ?l8a ?q8a ?_)
    try (case y8a => rfl)
    try (case x8a => rfl)
    try (case g8a => rfl)
    try (case o8a => rfl)
    try (case v8a => rfl)
    try (case i8a => exact (by rw [List.length_map, hTl.out]; exact Tryd.size24))
    try (case l8a => (rw [List.length_map, hTl.out]; exact Nat.le_refl _))
    try (case q8a => exact B8_one _)
    intro w12 hu12 hB12
    rw [splice_all _ _ (by rw [List.length_map, hTl.out]; rfl)] at hB12
    have hBk12 := hBk11.upd hu12 (by omega)
    have hbel12 := hbel11.trans (hu12.below (B := w.heap.size) (by omega))
    clear hBk11 hbel11 hu12 hB11 HY10
    have HY12 := HY.next hbel12
    have hcutT := run_cutAll (P := Tryd.prog) 76 5 32 Tryd.underlying76 Tryd.size5 (by decide) gt 0
    have hcvT := run_conv_later w12 (some ⟨gt, 0, none⟩) 32 32 T hTl.out.symm (blk_holds hB12)
    have hld := run_loadRow (P := Tryd.prog) gk 84 84 _ (q.map B8) 64 Tryd.underlying84 rfl Tryd.size31 (by rw [List.length_map]; exact hql.out) w12 hBk12.lt hBk12
    have hd := below_drew w12
    obtain ⟨o1, ho1⟩ : ∃ o1 : List UInt8, Hid (q.map (fun x : UInt8 => x ^^^ 92) = o1) := ⟨_, rfl⟩
    have ho1l : Hid (o1.length = 64) := by rw [← ho1.out]; rw [List.length_map]; exact hql
    have hol : o1.length + T.length ≤ 1000000000 := by rw [ho1l.out, hTl.out]; decide
    have hol2 : (o1 ++ T).length ≤ 1000000000 := by rw [List.length_append]; exact hol
    go_wp2
    have hsz31 : (Tryd.prog.info? 84).map (·.size) = some (q.map B8).length := by rw [List.length_map, hql.out]; exact Tryd.size31
    have hun31 := Tryd.underlying84
    obtain ⟨F, hF⟩ : ∃ F, Hid (SM.sum (o1 ++ T) = F) := ⟨_, rfl⟩
    have hFl : F.length = 32 := by rw [← hF.out]; rfl
    have hnew := run_storeNew (P := Tryd.prog) 76 (List.replicate 32 (Value.int .u8 0)).toArray F hFl (by rw [hFl]; exact Tryd.size24) rfl
    have hone := B8_one F
    have hthG := Lib.hid (fun w : World => there_new w F hFl 76)
    have hsz24 : (Tryd.prog.info? 76).map (·.size) = some (List.map B8 F).length := by rw [List.length_map, hFl]; exact Tryd.size24
    have hrg : ∀ w', Below w12.heap.size w12 w' → w'.rangeAt gk 0 (q.map B8) := fun w' hw => blk_range (hBk12.next hw hBk12.lt)
    go_region_held3 (fun w' => Below w12.heap.size w12 w' ∧ w'.rangeAt gk 0 (q.map B8))
      (first | assumption | exact ⟨by (first | assumption | exact below_newset (by assumption) _ _ | exact below_put (by assumption) (by assumption) _ | exact below_alloc (by assumption) _ | exact (Below.refl _ _).drew | exact below_alloc (below_drew _) _ | exact Below.refl _ _), hrg _ (by (first | assumption | exact below_newset (by assumption) _ _ | exact below_put (by assumption) (by assumption) _ | exact below_alloc (by assumption) _ | exact (Below.refl _ _).drew | exact below_alloc (below_drew _) _ | exact Below.refl _ _))⟩)
      (first
      | (go_at_call 67; refine (keyed_to q 92 92 o1 _ rfl ho1 hql.out (HY12.next (by (first | assumption | exact below_newset (by assumption) _ _ | exact below_put (by assumption) (by assumption) _ | exact below_alloc (by assumption) _ | exact (Below.refl _ _).drew | exact below_alloc (below_drew _) _ | exact Below.refl _ _)))).mono ?_; rintro e w13 ⟨rfl, hb13⟩; have hk13 : Below w12.heap.size w12 w13 := below_join (by (first | assumption | exact below_newset (by assumption) _ _ | exact below_put (by assumption) (by assumption) _ | exact below_alloc (by assumption) _ | exact (Below.refl _ _).drew | exact below_alloc (below_drew _) _ | exact Below.refl _ _)) hb13; (first | (have hth13 := there_callD F hFl hb13; have hge13 : w12.heap.size ≤ w12.heap.size := Nat.le_refl _) | (have hth13 := there_call F hFl hb13; have hge13 := new_ge (by first | assumption | exact below_drew _) hb13) | (have hth13 := there_next (by assumption) hb13) | skip); clear hb13)
      | (go_at_call 65; refine (add_raw o1 T _ hol (HY12.next (by (first | assumption | exact below_newset (by assumption) _ _ | exact below_put (by assumption) (by assumption) _ | exact below_alloc (by assumption) _ | exact (Below.refl _ _).drew | exact below_alloc (below_drew _) _ | exact Below.refl _ _)))).mono ?_; rintro e w14 ⟨rfl, hb14⟩; have hk14 : Below w12.heap.size w12 w14 := below_join (by (first | assumption | exact below_newset (by assumption) _ _ | exact below_put (by assumption) (by assumption) _ | exact below_alloc (by assumption) _ | exact (Below.refl _ _).drew | exact below_alloc (below_drew _) _ | exact Below.refl _ _)) hb14; (first | (have hth14 := there_callD F hFl hb14; have hge14 : w12.heap.size ≤ w12.heap.size := Nat.le_refl _) | (have hth14 := there_call F hFl hb14; have hge14 := new_ge (by first | assumption | exact below_drew _) hb14) | (have hth14 := there_next (by assumption) hb14) | skip); clear hb14)
      | (go_at_call 66; refine (ssum_to (o1 ++ T) F _ hF hol2 (HY12.next (by (first | assumption | exact below_newset (by assumption) _ _ | exact below_put (by assumption) (by assumption) _ | exact below_alloc (by assumption) _ | exact (Below.refl _ _).drew | exact below_alloc (below_drew _) _ | exact Below.refl _ _)))).mono ?_; rintro e w15 ⟨rfl, hb15⟩; have hk15 : Below w12.heap.size w12 w15 := below_join (by (first | assumption | exact below_newset (by assumption) _ _ | exact below_put (by assumption) (by assumption) _ | exact below_alloc (by assumption) _ | exact (Below.refl _ _).drew | exact below_alloc (below_drew _) _ | exact Below.refl _ _)) hb15; have hth0 := hthG.out w15; (first | (have hth15 := there_callD F hFl hb15; have hge15 : w12.heap.size ≤ w12.heap.size := Nat.le_refl _) | (have hth15 := there_call F hFl hb15; have hge15 := new_ge (by first | assumption | exact below_drew _) hb15) | (have hth15 := there_next (by assumption) hb15) | skip); clear hb15))
    have hcutG : ∀ (g : Nat) (w : World), (Instr.sliceAt 76 (.pointer (some ⟨g, 0, none⟩)) none none none).run Tryd.prog w = .ok (.slice (some ⟨g, 0, none⟩) 32 32) w := fun g => run_cutAll (P := Tryd.prog) 76 5 32 Tryd.underlying76 Tryd.size5 (by decide) g 0
    all_goals
      generalize hW : World.setCells _ _ _ _ = W
      have hW' := Lib.hid hW
      clear hW
      obtain ⟨hH, hBW⟩ := fin_eq hW'.out (by assumption) (show Below w12.heap.size w12 _ by (first | assumption | exact below_alloc (by assumption) _)) (by first | assumption | exact Below.size (by assumption))
      have hcvW := run_conv_later W _ 32 32 F hFl.symm hH W (Below.refl _ _)
      have hbelW := hbel12.trans (hBW.mono hbel12.size)
      have HFin : Hid (mac key.data.toList text.data.toList = F) := by
        have : mac key.data.toList text.data.toList = F := by unfold mac; rw [hq.out, hi1.out, ho1.out, hT.out, hF.out]
        exact this
      clear hBW hH hbel12 hB12 hBk12 HY12 hcutT hcvT hld hd hrg hone hthG hnew
      go_wp2
      go_ret
      exact ⟨by rw [HFin.out]; rfl, hbelW⟩
  · have hcut := run_cutAll (P := Tryd.prog) 84 5 64 Tryd.underlying84 Tryd.size5 (by decide) gk 0
    have hp : Hid (key.data.toList.take 64 = key.data.toList) := by
      have : key.data.toList.take 64 = key.data.toList := List.take_of_length_le (by rw [hkl.out]; omega)
      exact this
    have hKB : Hid (splice zero64 0 (key.data.toList.map B8) = (keyBlk key.data.toList).map B8) := by
      have : splice zero64 0 (key.data.toList.map B8) = (keyBlk key.data.toList).map B8 := by
        unfold keyBlk
        rw [if_neg (by rw [hkl.out]; exact h64)]
        have e := splice_tail [] (SM.zeros 64) key.data.toList 64 rfl (by rw [hkl.out]; omega)
        rw [List.nil_append, List.length_nil, List.nil_append] at e
        rw [← e]
        unfold splice zero64; simp [List.map_drop]
      exact this
    go_wp2_with (first | (with_reducible refine wpList_cutA (o := ⟨some 19, .slice 84 (.tmp 5) none none none, _, _, _, _⟩) ?g4 84 (.tmp 5) ?o4 gk 0 ?x4 64 5 ?u4 ?i4 ?m4 ?_) | (with_reducible refine wpList_copyP (o := ⟨some 21, .call ⟨.builtin .copy, #[.tmp 19, .tmp 20], #[43, 9]⟩, _, _, _, _⟩) ?g5 (.tmp 19) (.tmp 20) 43 9 ?o5 5 ?u5 ?i5 gk 0 64 64 ?x5 key ?y5 hB1 ?l5 key.data.toList hp ?_))
    try (case x4 => rfl)
    try (case g4 => rfl)
    try (case o4 => rfl)
    try (case u4 => exact Tryd.underlying84)
    try (case i4 => exact Tryd.size5)
    try (case m4 => decide)
    case g5 => rfl
    case o5 => rfl
    try (case x5 => rfl)
    try (case y5 => rfl)
    case u5 => exact Tryd.underlying43
    case i5 => exact Tryd.size5
    case l5 => exact Nat.le_refl _
    intro w7 hu7 hB7
    rw [hKB.out] at hB7
    have hbel7 := hb.trans (hu7.below hlt0)
    clear hB1 hb hu7 hcut hKB
    have HY7 := HY.next hbel7
    obtain ⟨q, hq⟩ : ∃ q, Hid (keyBlk key.data.toList = q) := ⟨_, rfl⟩
    have hql : Hid (q.length = 64) := by rw [← hq.out]; exact keyBlk_length _
    rw [hq.out] at hB7
    go_wp2_with (with_reducible refine wpList_get (o := ⟨some 22, .load 84 (.tmp 5), _, _, _, _⟩) ?g6b 84 (.tmp 5) ?o6b gk 0 ?x6b hB7 (q.map B8) ?c6b (.array 64 5) ?u6b ?d6b ?i6b ?_)
    try (case x6b => rfl)
    try (case g6b => rfl)
    try (case o6b => rfl)
    try (case c6b => (exact cs_all _))
    try (case u6b => exact Tryd.underlying84)
    try (case d6b => first | rfl | assumption)
    try (case i6b => (rw [List.length_map, hql.out]; exact Tryd.size31))
    go_wp2_with fail
    (with_reducible refine (keyed_lit q 54 54 _ rfl hql.out HY7).mono ?_)
    rintro e w8 ⟨rfl, hb8⟩
    have hB8' := hB7.next hb8 hB7.lt
    have hbel8 := hbel7.trans (hb8.mono hbel7.size)
    have HY8 := HY7.next hb8
    clear hB7 hbel7 hb8 HY7
    obtain ⟨i1, hi1⟩ : ∃ i1 : List UInt8, Hid (q.map (fun x : UInt8 => x ^^^ 54) = i1) := ⟨_, rfl⟩
    have hi1l : Hid (i1.length = 64) := by rw [← hi1.out]; rw [List.length_map]; exact hql
    rw [hi1.out]
    go_wp2_with fail
    (with_reducible refine (add_text i1 text _ (by rw [hi1l.out]; omega) HY8).mono ?_)
    rintro e w9 ⟨rfl, hb9⟩
    have hB9 := hB8'.next hb9 hB8'.lt
    have hbel9 := hbel8.trans (hb9.mono hbel8.size)
    have HY9 := HY8.next hb9
    clear hB8' hbel8 hb9 HY8
    have hml : (i1 ++ text.data.toList).length ≤ 1000000000 := by rw [List.length_append, hi1l.out, htl.out]; omega
    go_wp2_with fail
    (with_reducible refine (ssum_any (i1 ++ text.data.toList) _ hml HY9).mono ?_)
    rintro e w10 ⟨rfl, hb10⟩
    have hB10 := hB9.next hb10 hB9.lt
    have hbel10 := hbel9.trans (hb10.mono hbel9.size)
    have HY10 := HY9.next hb10
    clear hB9 hbel9 hb10 HY9 hml
    obtain ⟨T, hT⟩ : ∃ T, Hid (SM.sum (i1 ++ text.data.toList) = T) := ⟨_, rfl⟩
    have hTl : Hid (T.length = 32) := by rw [← hT.out]; rfl
    rw [hT.out]
    go_wp2_with (with_reducible refine wpList_alloc (o := ⟨some 7, .alloc 76, _, _, _, _⟩) ?g7b 76 ?o7b (aggB (SM.zeros 32)) zero32 ?z7b ?c7b ?_)
    try (case g7b => rfl)
    try (case o7b => rfl)
    try (case z7b => exact Tryd.zero24)
    try (case c7b => rfl)
    intro gt w11 hgt hs11 hb11 hB11
    have hlt11 : gk < gt := by have := hB10.lt; have := hgt.out; omega
    have hBk11 := hB10.next hb11 hlt11
    have hbel11 := hbel10.trans (hb11.mono (by have := hbel10.size; have := hgt.out; omega))
    clear hB10 hbel10 hb11 hgt hs11
    go_wp2_with (with_reducible refine wpList_put (o := ⟨none, .store 76 (.tmp 7) (.tmp 26), _, _, _, _⟩) ?g8b 76 (.tmp 7) (.tmp 26) ?o8b gt 0 ?x8b (.agg (T.map B8).toArray) ?y8b hB11 (T.map B8) ?v8b ?i8b ?l8b ?q8b ?_)
    try (case y8b => rfl)
    try (case x8b => rfl)
    try (case g8b => rfl)
    try (case o8b => rfl)
    try (case v8b => rfl)
    try (case i8b => exact (by rw [List.length_map, hTl.out]; exact Tryd.size24))
    try (case l8b => (rw [List.length_map, hTl.out]; exact Nat.le_refl _))
    try (case q8b => exact B8_one _)
    intro w12 hu12 hB12
    rw [splice_all _ _ (by rw [List.length_map, hTl.out]; rfl)] at hB12
    have hBk12 := hBk11.upd hu12 (by omega)
    have hbel12 := hbel11.trans (hu12.below (B := w.heap.size) (by omega))
    clear hBk11 hbel11 hu12 hB11 HY10
    have HY12 := HY.next hbel12
    have hcutT := run_cutAll (P := Tryd.prog) 76 5 32 Tryd.underlying76 Tryd.size5 (by decide) gt 0
    have hcvT := run_conv_later w12 (some ⟨gt, 0, none⟩) 32 32 T hTl.out.symm (blk_holds hB12)
    have hld := run_loadRow (P := Tryd.prog) gk 84 84 _ (q.map B8) 64 Tryd.underlying84 rfl Tryd.size31 (by rw [List.length_map]; exact hql.out) w12 hBk12.lt hBk12
    have hd := below_drew w12
    obtain ⟨o1, ho1⟩ : ∃ o1 : List UInt8, Hid (q.map (fun x : UInt8 => x ^^^ 92) = o1) := ⟨_, rfl⟩
    have ho1l : Hid (o1.length = 64) := by rw [← ho1.out]; rw [List.length_map]; exact hql
    have hol : o1.length + T.length ≤ 1000000000 := by rw [ho1l.out, hTl.out]; decide
    have hol2 : (o1 ++ T).length ≤ 1000000000 := by rw [List.length_append]; exact hol
    go_wp2
    have hsz31 : (Tryd.prog.info? 84).map (·.size) = some (q.map B8).length := by rw [List.length_map, hql.out]; exact Tryd.size31
    have hun31 := Tryd.underlying84
    obtain ⟨F, hF⟩ : ∃ F, Hid (SM.sum (o1 ++ T) = F) := ⟨_, rfl⟩
    have hFl : F.length = 32 := by rw [← hF.out]; rfl
    have hnew := run_storeNew (P := Tryd.prog) 76 (List.replicate 32 (Value.int .u8 0)).toArray F hFl (by rw [hFl]; exact Tryd.size24) rfl
    have hone := B8_one F
    have hthG := Lib.hid (fun w : World => there_new w F hFl 76)
    have hsz24 : (Tryd.prog.info? 76).map (·.size) = some (List.map B8 F).length := by rw [List.length_map, hFl]; exact Tryd.size24
    have hrg : ∀ w', Below w12.heap.size w12 w' → w'.rangeAt gk 0 (q.map B8) := fun w' hw => blk_range (hBk12.next hw hBk12.lt)
    go_region_held3 (fun w' => Below w12.heap.size w12 w' ∧ w'.rangeAt gk 0 (q.map B8))
      (first | assumption | exact ⟨by (first | assumption | exact below_newset (by assumption) _ _ | exact below_put (by assumption) (by assumption) _ | exact below_alloc (by assumption) _ | exact (Below.refl _ _).drew | exact below_alloc (below_drew _) _ | exact Below.refl _ _), hrg _ (by (first | assumption | exact below_newset (by assumption) _ _ | exact below_put (by assumption) (by assumption) _ | exact below_alloc (by assumption) _ | exact (Below.refl _ _).drew | exact below_alloc (below_drew _) _ | exact Below.refl _ _))⟩)
      (first
      | (go_at_call 67; refine (keyed_to q 92 92 o1 _ rfl ho1 hql.out (HY12.next (by (first | assumption | exact below_newset (by assumption) _ _ | exact below_put (by assumption) (by assumption) _ | exact below_alloc (by assumption) _ | exact (Below.refl _ _).drew | exact below_alloc (below_drew _) _ | exact Below.refl _ _)))).mono ?_; rintro e w13 ⟨rfl, hb13⟩; have hk13 : Below w12.heap.size w12 w13 := below_join (by (first | assumption | exact below_newset (by assumption) _ _ | exact below_put (by assumption) (by assumption) _ | exact below_alloc (by assumption) _ | exact (Below.refl _ _).drew | exact below_alloc (below_drew _) _ | exact Below.refl _ _)) hb13; (first | (have hth13 := there_callD F hFl hb13; have hge13 : w12.heap.size ≤ w12.heap.size := Nat.le_refl _) | (have hth13 := there_call F hFl hb13; have hge13 := new_ge (by first | assumption | exact below_drew _) hb13) | (have hth13 := there_next (by assumption) hb13) | skip); clear hb13)
      | (go_at_call 65; refine (add_raw o1 T _ hol (HY12.next (by (first | assumption | exact below_newset (by assumption) _ _ | exact below_put (by assumption) (by assumption) _ | exact below_alloc (by assumption) _ | exact (Below.refl _ _).drew | exact below_alloc (below_drew _) _ | exact Below.refl _ _)))).mono ?_; rintro e w14 ⟨rfl, hb14⟩; have hk14 : Below w12.heap.size w12 w14 := below_join (by (first | assumption | exact below_newset (by assumption) _ _ | exact below_put (by assumption) (by assumption) _ | exact below_alloc (by assumption) _ | exact (Below.refl _ _).drew | exact below_alloc (below_drew _) _ | exact Below.refl _ _)) hb14; (first | (have hth14 := there_callD F hFl hb14; have hge14 : w12.heap.size ≤ w12.heap.size := Nat.le_refl _) | (have hth14 := there_call F hFl hb14; have hge14 := new_ge (by first | assumption | exact below_drew _) hb14) | (have hth14 := there_next (by assumption) hb14) | skip); clear hb14)
      | (go_at_call 66; refine (ssum_to (o1 ++ T) F _ hF hol2 (HY12.next (by (first | assumption | exact below_newset (by assumption) _ _ | exact below_put (by assumption) (by assumption) _ | exact below_alloc (by assumption) _ | exact (Below.refl _ _).drew | exact below_alloc (below_drew _) _ | exact Below.refl _ _)))).mono ?_; rintro e w15 ⟨rfl, hb15⟩; have hk15 : Below w12.heap.size w12 w15 := below_join (by (first | assumption | exact below_newset (by assumption) _ _ | exact below_put (by assumption) (by assumption) _ | exact below_alloc (by assumption) _ | exact (Below.refl _ _).drew | exact below_alloc (below_drew _) _ | exact Below.refl _ _)) hb15; have hth0 := hthG.out w15; (first | (have hth15 := there_callD F hFl hb15; have hge15 : w12.heap.size ≤ w12.heap.size := Nat.le_refl _) | (have hth15 := there_call F hFl hb15; have hge15 := new_ge (by first | assumption | exact below_drew _) hb15) | (have hth15 := there_next (by assumption) hb15) | skip); clear hb15))
    have hcutG : ∀ (g : Nat) (w : World), (Instr.sliceAt 76 (.pointer (some ⟨g, 0, none⟩)) none none none).run Tryd.prog w = .ok (.slice (some ⟨g, 0, none⟩) 32 32) w := fun g => run_cutAll (P := Tryd.prog) 76 5 32 Tryd.underlying76 Tryd.size5 (by decide) g 0
    all_goals
      generalize hW : World.setCells _ _ _ _ = W
      have hW' := Lib.hid hW
      clear hW
      obtain ⟨hH, hBW⟩ := fin_eq hW'.out (by assumption) (show Below w12.heap.size w12 _ by (first | assumption | exact below_alloc (by assumption) _)) (by first | assumption | exact Below.size (by assumption))
      have hcvW := run_conv_later W _ 32 32 F hFl.symm hH W (Below.refl _ _)
      have hbelW := hbel12.trans (hBW.mono hbel12.size)
      have HFin : Hid (mac key.data.toList text.data.toList = F) := by
        have : mac key.data.toList text.data.toList = F := by unfold mac; rw [hq.out, hi1.out, ho1.out, hT.out, hF.out]
        exact this
      clear hBW hH hbel12 hB12 hBk12 HY12 hcutT hcvT hld hd hrg hone hthG hnew
      go_wp2
      go_ret
      exact ⟨by rw [HFin.out]; rfl, hbelW⟩
end Go.Proofs.YtkakiepaffhhjaaDoor

/-
  The examples of chapter 2, reckoned. Conditions: none.
-/
namespace Go.Proofs.YtkakiepaffhhjaaDoor
def abcHex : List UInt8 := [98, 97, 55, 56, 49, 54, 98, 102, 56, 102, 48, 49, 99, 102, 101, 97, 52, 49, 52, 49, 52, 48, 100, 101, 53, 100, 97, 101, 50, 50, 50, 51, 98, 48, 48, 51, 54, 49, 97, 51, 57, 54, 49, 55, 55, 97, 57, 99, 98, 52, 49, 48, 102, 102, 54, 49, 102, 50, 48, 48, 49, 53, 97, 100]
def macHex : List UInt8 := [53, 98, 100, 99, 99, 49, 52, 54, 98, 102, 54, 48, 55, 53, 52, 101, 54, 97, 48, 52, 50, 52, 50, 54, 48, 56, 57, 53, 55, 53, 99, 55, 53, 97, 48, 48, 51, 102, 48, 56, 57, 100, 50, 55, 51, 57, 56, 51, 57, 100, 101, 99, 53, 56, 98, 57, 54, 52, 101, 99, 51, 56, 52, 51]
def ofHex : List UInt8 := [102, 97, 49, 53, 52, 98, 97, 53, 97, 52, 100, 50, 54, 54, 102, 49, 98, 54, 52, 99, 56, 50, 54, 99, 101, 101, 100, 99, 97, 99, 98, 55]
def jefe : ByteArray := { data := #[74, 101, 102, 101] }
def what : ByteArray := { data := #[119, 104, 97, 116, 32, 100, 111, 32, 121, 97, 32, 119, 97, 110, 116, 32, 102, 111, 114, 32, 110, 111, 116, 104, 105, 110, 103, 63] }
def sA : ByteArray := { data := #[97] }
def sE : ByteArray := { data := #[] }
theorem ev_sum : hexL (SM.sum [97, 98, 99]) = abcHex := by decide +kernel
theorem ev_mac : hexL (mac jefe.data.toList what.data.toList) = macHex := by decide +kernel
theorem ev_in : ofIn 8 [sA, sE] = [8, 2, 97, 0] := by
  unfold ofIn strsOf
  simp only [List.map_cons, List.map_nil, List.flatMap_cons, List.flatMap_nil, List.append_nil]
  have h1 : WM.encB sA.data.toList = [2, 97] := by
    show WM.encN (WM.fold 1) ++ [97] = [2, 97]
    rw [WM.encN_lo (by decide)]; rfl
  have h2 : WM.encB sE.data.toList = [0] := by
    show WM.encN (WM.fold 0) ++ [] = [0]
    rw [WM.encN_lo (by decide)]; rfl
  rw [h1, h2]
  decide
theorem ev_of' : hexL ((SM.sum [8, 2, 97, 0]).take 16) = ofHex := by decide +kernel
theorem ev_of : hexL ((SM.sum (ofIn 8 [sA, sE])).take 16) = ofHex := by rw [ev_in]; exact ev_of'
end Go.Proofs.YtkakiepaffhhjaaDoor
