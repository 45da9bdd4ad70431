/-
  Contracts of the walks over chapter 1's byte strings (wire.Bytes and the reference's Bytes), and what a slice of bytes holds: those of stage 1, for the translation of a later stage. Conditions: at most 10^9 bytes.
-/
import Derived.Test.YtnhnfdfjlagcjaaDoorHw
import Derived.Test.YtnhnfdfjlagcjaaDoorMathLists
import Derived.Lib.AppendStr
import Derived.Laws.BytesArg
import Derived.Laws.DeepNot64
namespace Go.Proofs.YtnhnfdfjlagcjaaDoor
open Go.RowKit

theorem B8_one' (l : List UInt8) : ∀ u ∈ l.map B8, u.oneCell' = true := by
  intro u hu; simp only [List.mem_map] at hu; obtain ⟨c, _, rfl⟩ := hu; rfl
theorem u64_not (x : Int) (h1 : 0 ≤ x) (h2 : x ≤ 18446744073709551615) : bits .xor .u64 IntKind.u64.max x = 18446744073709551615 - x := by
  obtain ⟨a, rfl⟩ := Int.eq_ofNat_of_zero_le h1
  have e : IntKind.u64.max = ((18446744073709551615 : Nat) : Int) := rfl
  rw [e, bits_xor_u64_nat _ _ (by decide) (by omega), Nat.xor_comm]
  have hx : a ^^^ 18446744073709551615 = 18446744073709551615 - a := by
    have ha : a < 2 ^ 64 := by omega
    have e2 : (BitVec.ofNat 64 a ^^^ BitVec.allOnes 64).toNat = (~~~ BitVec.ofNat 64 a).toNat := by rw [BitVec.xor_allOnes]
    rw [BitVec.toNat_xor, BitVec.toNat_not, BitVec.toNat_allOnes, BitVec.toNat_ofNat, Nat.mod_eq_of_lt ha] at e2
    simpa using e2
  rw [hx]
  omega
theorem fold_wrap (n : Int) (h1 : -9223372036854775808 ≤ n) (h2 : n ≤ 9223372036854775807) (h : n < 0) :
    bits BinOp.xor IntKind.u64 IntKind.u64.max (IntKind.u64.wrap (IntKind.u64.wrap n * 2)) = WM.fold n := by
  rw [u64_not]
  · unfold WM.fold; rw [if_pos h]; simp only [IntKind.wrap_u64]; omega
  · simp only [IntKind.wrap_u64]; omega
  · simp only [IntKind.wrap_u64]; omega

theorem fold_any (n : Int) (w : World) (h1 : -9223372036854775808 ≤ n) (h2 : n ≤ 9223372036854775807) :
    Calls Tryd.prog 90 #[.int .i64 n] w fun e w' => e = .returned (.int .u64 (WM.fold n)) ∧ w = w' := by
  by_cases h : n < 0
  · have H := Lib.hid (fold_wrap n h1 h2 h)
    go_enter Tryd.func90, Tryd.ntmps90
    go_wp2
    go_ret
    exact ⟨by rw [← H.out]; rfl, rfl⟩
  · go_enter Tryd.func90, Tryd.ntmps90
    go_wp2
    go_ret
    exact ⟨by unfold WM.fold; rw [if_neg (by omega)]; show Ending.returned (.int .u64 (n * 2)) = _; rw [show (((2 * n).toNat : Nat) : Int) = n * 2 by omega], rfl⟩

theorem Tryd.info8 : (Tryd.prog.info? 5).map (fun i => (i.zero, i.size, i.bytes)) = some (some (.int .u8 0), 1, 1) := by kernel_rfl

theorem or128 (z : Nat) (_h : 128 ≤ z) : bits .or .u8 (IntKind.u8.wrap (z : Int)) 128 = ((UInt8.ofNat (z % 128 + 128)).toNat : Int) := by
  rw [WM.byte_hi, IntKind.wrap_u8]
  have e : ((z : Int) % 256) = ((z % 256 : Nat) : Int) := by omega
  rw [e, show (128 : Int) = ((128 : Nat) : Int) by rfl, u8_or_nat _ _ (by omega) (by decide)]
  have : z % 256 ||| 128 = z % 128 + 128 := by
    rcases Nat.lt_or_ge (z % 256) 128 with hl | hl
    · have := nat_join 7 128 (z % 256) (by decide) (by omega)
      rw [Nat.or_comm, this]; omega
    · have h1 := nat_join 7 128 (z % 256 - 128) (by decide) (by omega)
      have h2 : z % 256 = 128 ||| (z % 256 - 128) := by rw [h1]; omega
      rw [h2, Nat.or_comm, ← Nat.or_assoc, Nat.or_self, h1]; omega
  rw [this]
theorem wrap_lo (z : Nat) (h : z < 128) : IntKind.u8.wrap (z : Int) = ((UInt8.ofNat z).toNat : Int) := by
  rw [WM.byte_lo h, IntKind.wrap_u8]; omega
theorem one_cell {w : World} {u x : Value} {t : TypeId} {j : Nat} (h : [x][j]? = some u) : (w.alloc (.cells #[x] t)).cell? ((⟨w.heap.size, 0, none⟩ : Addr).add j) = some u := by
  match j, h with
  | 0, h => simp at h; subst h; simp [Addr.add]
theorem one_one {c : UInt8} : ∀ u ∈ [B8 c], u.oneCell' = true := B8_one' [c]

/-- What the loop of addInt has done: z is left, pre has been appended. -/
def AddRel (base m : Nat) (xs : List Value) (n : Int) (w : World) (v z : Value) (wr : World) : Prop :=
  ∃ (Z : Nat) (pre : List UInt8), Z < 18446744073709551616 ∧ z = .int .u64 Z ∧ WM.encI n = pre ++ WM.encN Z ∧ wr.ownsRow base 5 1 v (m + pre.length) (xs ++ pre.map B8) ∧ Below base w wr

set_option maxRecDepth 100000 in
set_option maxHeartbeats 800000 in
theorem addInt_any (base : Nat) (v : Value) (m : Nat) (xs : List Value) (n : Int) (w : World) (h1 : -9223372036854775808 ≤ n) (h2 : n ≤ 9223372036854775807)
    (hown : w.ownsRow base 5 1 v m xs) (hb : base ≤ w.heap.size) (hm : m ≤ 1000000000) :
    Calls Tryd.prog 77 #[v, .int .i64 n] w fun e w' =>
      ∃ v', e = .returned v' ∧ w'.ownsRow base 5 1 v' (m + (WM.encI n).length) (xs ++ (WM.encI n).map B8) ∧ Below base w w' := by
  obtain ⟨i0, hi, hz0, hz1, hz2⟩ := info_parts Tryd.info8
  have hfl := WM.fold_lt h1 h2
  have hel : (WM.encI n).length ≤ 10 := WM.encN_le10 hfl
  go_enter Tryd.func77, Tryd.ntmps77
  go_wp2_with (go_at_call 90; refine (fold_any _ _ h1 h2).mono ?_; rintro e w' ⟨rfl, rfl⟩)
  go_loopw [0, 5] (AddRel base m xs n w) (fun _ z _ => (intOf z).toNat)
  case atStart => exact ⟨WM.fold n, [], hfl, rfl, rfl, by simpa using hown, Below.refl _ _⟩
  case round =>
    obtain ⟨Z, pre, hZ, rfl, he, hownr, hbel⟩ := hrel
    have HE := Lib.hid he
    have hpl : pre.length ≤ 10 := by rw [he] at hel; simp at hel; omega
    clear he
    have hsz := hbel.size
    by_cases hlt : Z < 128
    · go_wp2_with (at_builtin; refine wpList_append_own _ rfl _ _ 22 rfl base 5 i0 (.int .u8 0) 1 1 Tryd.underlying22 hi hz0 hz1 hz2 rfl (by decide) _ _ _ rfl (hownr.alloc _) ⟨wr.heap.size, 0, none⟩ 1 1 [.int .u8 (Z : Int)] rfl rfl ?c1 ?c2 ?c3 ?c4 ?c5 ?_)
      case c1 => exact fun j u hu => one_cell hu
      case c2 => intro u hu; simp at hu; subst hu; rfl
      case c3 => unfold maxLen; omega
      case c4 => omega
      case c5 => simp; omega
      intro v' w1 hown' hgrow _
      have hlt' := hownr.lt
      clear hownr
      go_wp2
      go_ret
      refine ⟨_, rfl, ?_, (hbel.alloc (by omega) _).grown hgrow (by simp; omega) (fun k hk => (hlt' k hk).1)⟩
      rw [HE.out, WM.encN_lo hlt]
      have e : (Value.int .u8 (Z : Int)) = B8 (UInt8.ofNat Z) := by unfold B8; rw [WM.byte_lo hlt]
      rw [e] at hown'
      simpa [Nat.add_assoc] using hown'
    · have HW := Lib.hid (or128 Z (by omega))
      go_wp2_with (at_builtin; refine wpList_append_own _ rfl _ _ 22 rfl base 5 i0 (.int .u8 0) 1 1 Tryd.underlying22 hi hz0 hz1 hz2 rfl (by decide) _ _ _ rfl (hownr.alloc _) ⟨wr.heap.size, 0, none⟩ 1 1 [.int .u8 (bits .or .u8 (IntKind.u8.wrap (Z : Int)) 128)] rfl rfl ?d1 ?d2 ?d3 ?d4 ?d5 ?_)
      case d1 => exact fun j u hu => one_cell hu
      case d2 => intro u hu; simp at hu; subst hu; rfl
      case d3 => unfold maxLen; omega
      case d4 => omega
      case d5 => simp; omega
      intro v' w1 hown' hgrow _
      have hlt' := hownr.lt
      clear hownr
      go_wp2
      go_roundw
      case rel =>
        refine ⟨Z / 128, pre ++ [UInt8.ofNat (Z % 128 + 128)], by omega, by go_num, ?_, ?_, (hbel.alloc (by omega) _).grown hgrow (by simp; omega) (fun k hk => (hlt' k hk).1)⟩
        · rw [HE.out, WM.encN_hi hlt]; simp
        · have e : (Value.int .u8 (bits .or .u8 (IntKind.u8.wrap (Z : Int)) 128)) = B8 (UInt8.ofNat (Z % 128 + 128)) := by unfold B8; rw [HW.out]
          rw [e] at hown'
          simpa [Nat.add_assoc] using hown'
      case measure => simp [intOf]; omega

/-- What lies at a slice's address. -/
def Holds (w : World) (A : Option Addr) (xs : List Value) : Prop := ∀ k u, xs[k]? = some u → ∃ ad, A = some ad ∧ w.cell? (ad.add k) = some u
/-- What could be read can still be read. -/
def Keeps (w w' : World) : Prop := ∀ p v, w.cell? p = some v → w'.cell? p = some v
theorem Keeps.of {w w' : World} (h : Below w.heap.size w w') : Keeps w w' := fun p v hp => by rw [h.cell (World.block_lt_of_cell? w p hp)]; exact hp
theorem Holds.keep {w w' : World} {A : Option Addr} {xs : List Value} (h : Holds w A xs) (k : Keeps w w') : Holds w' A xs := fun j u hu => by
  obtain ⟨ad, e, hc⟩ := h j u hu
  exact ⟨ad, e, k _ _ hc⟩
theorem Holds.byte {w : World} {A : Option Addr} {l : List UInt8} (h : Holds w A (l.map B8)) {k : Nat} (hk : k < l.length) : ∃ ad, A = some ad ∧ w.cell? (ad.add k) = some (.int .u8 ((l.getD k 0).toNat : Int)) := by
  have hu : (l.map B8)[k]? = some (B8 (l.getD k 0)) := by simp [List.getElem?_eq_getElem hk]
  exact h k _ hu

theorem strCells_B8 (s : ByteArray) : Lib.strCells s = s.data.toList.map B8 := rfl
theorem bytes_size (s : ByteArray) : s.data.toList.length = s.size := by rw [Array.length_toList]; rfl
set_option maxRecDepth 100000 in
set_option maxHeartbeats 800000 in
theorem addBytes_any (base : Nat) (v : Value) (m : Nat) (xs : List Value) (s : ByteArray) (w : World) (hs : s.size ≤ 1000000000)
    (hown : w.ownsRow base 5 1 v m xs) (hb : base ≤ w.heap.size) (hm : m ≤ 1000000000) :
    Calls Tryd.prog 76 #[v, .string s] w fun e w' =>
      ∃ v', e = .returned v' ∧ w'.ownsRow base 5 1 v' (m + (WM.encB s.data.toList).length) (xs ++ (WM.encB s.data.toList).map B8) ∧ Below base w w' := by
  obtain ⟨i0, hi, hz0, hz1, hz2⟩ := info_parts Tryd.info8
  have hel : (WM.encI (s.size : Int)).length ≤ 10 := WM.encI_le ⟨by omega, by omega⟩
  go_enter Tryd.func76, Tryd.ntmps76
  go_wp2_with fail
  refine (addInt_any base _ m xs (s.size : Int) _ (by omega) (by omega) hown hb hm).mono ?_
  rintro e w1 ⟨v1, rfl, hown1, hb1⟩
  have hlt1 := hown1.lt
  have hsz := hb1.size
  go_wp2_with (at_builtin; refine Lib.wpList_append_own_string _ rfl _ _ 22 9 rfl base 5 i0 Tryd.underlying22 Tryd.underlying9 hi hz0 hz1 hz2 _ _ _ rfl hown1 s rfl ?c1 ?c2 ?c3 ?_)
  case c1 => unfold maxLen; omega
  case c2 => omega
  case c3 => omega
  intro v2 w2 hown2 hgrow _
  clear hown1
  go_wp2
  go_ret
  refine ⟨_, rfl, ?_, hb1.grown hgrow (by omega) (fun k hk => (hlt1 k hk).1)⟩
  unfold WM.encB
  rw [bytes_size, List.length_append, bytes_size, List.map_append, ← Nat.add_assoc, ← strCells_B8]
  exact hown2

theorem bytes_any (s : ByteArray) (w : World) (hs : s.size ≤ 1000000000) :
    Calls Tryd.prog 55 #[.string s] w fun e w' =>
      ∃ v', e = .returned v' ∧ w'.ownsRow w.heap.size 5 1 v' (WM.encB s.data.toList).length ((WM.encB s.data.toList).map B8) ∧ Below w.heap.size w w' := by
  go_enter Tryd.func55, Tryd.ntmps55
  go_wp2_with (go_at_call 76; refine (addBytes_any w.heap.size _ 0 [] s _ hs (World.ownsRow_nil _ _ _ _) (Nat.le_refl _) (by decide)).mono ?_; rintro e w' ⟨v', rfl, hown, hb⟩)
  go_ret
  exact ⟨_, rfl, by simpa using hown, hb⟩

theorem ofNat_toNat8 (c : UInt8) : UInt8.ofNat ((c.toNat : Int)).toNat = c := by simp
/-- 'string(b)' of a slice that holds the bytes of a list. -/
theorem run_conv (w : World) (A : Option Addr) (cap : Nat) (l : List UInt8) (hh : Holds w A (l.map B8)) :
    (convert 22 9 (.slice A l.length cap)).run Tryd.prog w = .ok (.string ⟨l.toArray⟩) w := by
  rcases A with _ | ad
  · have hl : l = [] := by
      cases l with
      | nil => rfl
      | cons c r => obtain ⟨ad, h, _⟩ := hh 0 (B8 c) rfl; cases h
    subst hl
    rw [run_convert_bytes_nil w 22 5 Tryd.underlying22 Tryd.underlying5 _ _ 9 Tryd.underlying9]
    rfl
  · have hl : (loadCells ad l.length).run Tryd.prog w = .ok ((l.map fun c => (c.toNat : Int)).map (Value.int .u8)).toArray w := by
      have := run_loadCells_list (P := Tryd.prog) w ad (l.map B8) (fun j v hj => by
        obtain ⟨ad', e, hc⟩ := hh j v hj
        cases e
        exact hc)
      rw [List.length_map] at this
      rw [this, List.map_map]
      rfl
    rw [run_convert_bytes_string w 22 9 5 _ _ _ Tryd.underlying22 Tryd.underlying5 Tryd.underlying9, run_bytesToString w ad l.length cap _ hl, foldl_push_bytes]
    congr 2
    apply ByteArray.ext
    apply Array.toList_inj.1
    simp only [ByteArray.empty, ByteArray.emptyWithCapacity, List.map_map]
    rw [show ((fun n : Int => UInt8.ofNat n.toNat) ∘ fun c : UInt8 => (c.toNat : Int)) = id from funext ofNat_toNat8, List.map_id]
    simp
    rfl

theorem add_add (a : Addr) (i j : Nat) : (a.add i).add j = a.add (i + j) := by
  unfold Addr.add
  by_cases hi : i = 0 <;> by_cases hj : j = 0 <;> simp [hi, hj, Nat.add_assoc]
/-- A part of what a slice holds. -/
theorem Holds.cut {w : World} {A : Option Addr} {xs : List Value} (h : Holds w A xs) {k n m : Nat} (hm : xs.length ≤ m) : Holds w (if m = k then A else A.map (·.add k)) ((xs.drop k).take n) := by
  intro j u hu
  rw [List.getElem?_take] at hu
  split at hu
  · rw [List.getElem?_drop] at hu
    obtain ⟨ad, rfl, hc⟩ := h _ _ hu
    have hlt : k + j < xs.length := by
      rcases Nat.lt_or_ge (k + j) xs.length with hl | hl
      · exact hl
      · rw [List.getElem?_eq_none hl] at hu; cases hu
    rw [if_neg (by omega)]
    exact ⟨_, rfl, by rw [add_add]; exact hc⟩
  · cases hu

/-- What a row that the call owns holds. -/
theorem holds_own {w : World} {base size : Nat} {E : TypeId} {v : Value} {n : Nat} {xs : List Value} (h : w.ownsRow base E size v n xs) : ∃ A cap, v = .slice A n cap ∧ n ≤ cap ∧ Holds w A xs := by
  have hl := h.1
  rcases h.2 with ⟨rfl, rfl⟩ | ⟨g, cap, cur, rfl, _, _, hc, _⟩
  · refine ⟨none, 0, rfl, Nat.le_refl _, fun k u hu => ?_⟩
    have : xs = [] := List.eq_nil_of_length_eq_zero (by omega)
    rw [this] at hu; simp at hu
  · exact ⟨_, cap, rfl, hc, fun k u hu => ⟨_, rfl, h.cells rfl k u hu⟩⟩

def PutPost (bs : List UInt8) (w : World) (e : Ending) (w' : World) : Prop :=
  ∃ v', e = .returned v' ∧ w'.ownsRow w.heap.size 5 1 v' bs.length (bs.map B8) ∧ Below w.heap.size w w'
theorem refLoop_end (Z : Nat) (hZ : Z < 128) : (Value.int .u8 (Z : Int)) = B8 (UInt8.ofNat Z) := by unfold B8; rw [WM.byte_lo hZ]

set_option maxRecDepth 100000 in
set_option maxHeartbeats 1600000 in
theorem refInt_any (n : Int) (w : World) (h1 : -9223372036854775808 ≤ n) (h2 : n ≤ 9223372036854775807) :
    Calls Tryd.prog 61 #[.int .i64 n] w (PutPost (WM.encI n) w) := by
  obtain ⟨i0, hi, hz0, hz1, hz2⟩ := info_parts Tryd.info8
  have hfl := WM.fold_lt h1 h2
  have hel : (WM.encI n).length ≤ 10 := WM.encN_le10 hfl
  by_cases hneg : n < 0
  · have hf : (WM.fold n : Int) = (-1 - n) * 2 + 1 := by unfold WM.fold; rw [if_pos hneg]; omega
    have HF := Lib.hid hf
    clear hf
    go_enter Tryd.func61, Tryd.ntmps61
    go_wp2_with fail
    go_loopw [4, 3] (AddRel w.heap.size 0 [] n w) (fun _ z _ => (intOf z).toNat)
    case atStart => exact ⟨WM.fold n, [], hfl, by rw [HF.out], rfl, by simpa using World.ownsRow_nil w w.heap.size 5 1, Below.refl _ _⟩
    case round =>
      obtain ⟨Z, pre, hZ, rfl, he, hownr, hbel⟩ := hrel
      have HE := Lib.hid he
      have hpl : pre.length ≤ 10 := by rw [he] at hel; simp at hel; omega
      clear he
      have hsz := hbel.size
      by_cases hlt : Z < 128
      · go_wp2_with (at_builtin; refine wpList_append_own _ rfl _ _ 22 rfl w.heap.size 5 i0 (.int .u8 0) 1 1 Tryd.underlying22 hi hz0 hz1 hz2 rfl (by decide) _ _ _ rfl (hownr.alloc _) ⟨wr.heap.size, 0, none⟩ 1 1 [.int .u8 (Z : Int)] rfl rfl ?c1 ?c2 ?c3 ?c4 ?c5 ?_)
        case c1 => exact fun j u hu => one_cell hu
        case c2 => intro u hu; simp at hu; subst hu; rfl
        case c3 => unfold maxLen; omega
        case c4 => omega
        case c5 => simp; omega
        intro v' w1 hown' hgrow _
        have hlt' := hownr.lt
        clear hownr
        go_wp2
        go_ret
        refine ⟨_, rfl, ?_, (hbel.alloc (by omega) _).grown hgrow (by simp; omega) (fun k hk => (hlt' k hk).1)⟩
        rw [HE.out, WM.encN_lo hlt]
        rw [refLoop_end Z hlt] at hown'
        simpa [Nat.add_assoc] using hown'
      · go_wp2_with (at_builtin; refine wpList_append_own _ rfl _ _ 22 rfl w.heap.size 5 i0 (.int .u8 0) 1 1 Tryd.underlying22 hi hz0 hz1 hz2 rfl (by decide) _ _ _ rfl (hownr.alloc _) ⟨wr.heap.size, 0, none⟩ 1 1 [.int .u8 ((Z : Int) % 128 + 128)] rfl rfl ?d1 ?d2 ?d3 ?d4 ?d5 ?_)
        case d1 => exact fun j u hu => one_cell hu
        case d2 => intro u hu; simp at hu; subst hu; rfl
        case d3 => unfold maxLen; omega
        case d4 => omega
        case d5 => simp; omega
        intro v' w1 hown' hgrow _
        have hlt' := hownr.lt
        clear hownr
        go_wp2
        go_roundw
        case rel =>
          refine ⟨Z / 128, pre ++ [UInt8.ofNat (Z % 128 + 128)], by omega, by go_num, ?_, ?_, (hbel.alloc (by omega) _).grown hgrow (by simp; omega) (fun k hk => (hlt' k hk).1)⟩
          · rw [HE.out, WM.encN_hi hlt]; simp
          · have e : (Value.int .u8 ((Z : Int) % 128 + 128)) = B8 (UInt8.ofNat (Z % 128 + 128)) := by unfold B8; rw [WM.byte_hi]; rfl
            rw [e] at hown'
            simpa [Nat.add_assoc] using hown'
        case measure => simp [intOf]; omega
  · have hf : (WM.fold n : Int) = n * 2 := by unfold WM.fold; rw [if_neg hneg]; omega
    have HF := Lib.hid hf
    clear hf
    go_enter Tryd.func61, Tryd.ntmps61
    go_wp2_with fail
    go_loopw [4, 3] (AddRel w.heap.size 0 [] n w) (fun _ z _ => (intOf z).toNat)
    case atStart => exact ⟨WM.fold n, [], hfl, by rw [HF.out], rfl, by simpa using World.ownsRow_nil w w.heap.size 5 1, Below.refl _ _⟩
    case round =>
      obtain ⟨Z, pre, hZ, rfl, he, hownr, hbel⟩ := hrel
      have HE := Lib.hid he
      have hpl : pre.length ≤ 10 := by rw [he] at hel; simp at hel; omega
      clear he
      have hsz := hbel.size
      by_cases hlt : Z < 128
      · go_wp2_with (at_builtin; refine wpList_append_own _ rfl _ _ 22 rfl w.heap.size 5 i0 (.int .u8 0) 1 1 Tryd.underlying22 hi hz0 hz1 hz2 rfl (by decide) _ _ _ rfl (hownr.alloc _) ⟨wr.heap.size, 0, none⟩ 1 1 [.int .u8 (Z : Int)] rfl rfl ?f1 ?f2 ?f3 ?f4 ?f5 ?_)
        case f1 => exact fun j u hu => one_cell hu
        case f2 => intro u hu; simp at hu; subst hu; rfl
        case f3 => unfold maxLen; omega
        case f4 => omega
        case f5 => simp; omega
        intro v' w1 hown' hgrow _
        have hlt' := hownr.lt
        clear hownr
        go_wp2
        go_ret
        refine ⟨_, rfl, ?_, (hbel.alloc (by omega) _).grown hgrow (by simp; omega) (fun k hk => (hlt' k hk).1)⟩
        rw [HE.out, WM.encN_lo hlt]
        rw [refLoop_end Z hlt] at hown'
        simpa [Nat.add_assoc] using hown'
      · go_wp2_with (at_builtin; refine wpList_append_own _ rfl _ _ 22 rfl w.heap.size 5 i0 (.int .u8 0) 1 1 Tryd.underlying22 hi hz0 hz1 hz2 rfl (by decide) _ _ _ rfl (hownr.alloc _) ⟨wr.heap.size, 0, none⟩ 1 1 [.int .u8 ((Z : Int) % 128 + 128)] rfl rfl ?k1 ?k2 ?k3 ?k4 ?k5 ?_)
        case k1 => exact fun j u hu => one_cell hu
        case k2 => intro u hu; simp at hu; subst hu; rfl
        case k3 => unfold maxLen; omega
        case k4 => omega
        case k5 => simp; omega
        intro v' w1 hown' hgrow _
        have hlt' := hownr.lt
        clear hownr
        go_wp2
        go_roundw
        case rel =>
          refine ⟨Z / 128, pre ++ [UInt8.ofNat (Z % 128 + 128)], by omega, by go_num, ?_, ?_, (hbel.alloc (by omega) _).grown hgrow (by simp; omega) (fun k hk => (hlt' k hk).1)⟩
          · rw [HE.out, WM.encN_hi hlt]; simp
          · have e : (Value.int .u8 ((Z : Int) % 128 + 128)) = B8 (UInt8.ofNat (Z % 128 + 128)) := by unfold B8; rw [WM.byte_hi]; rfl
            rw [e] at hown'
            simpa [Nat.add_assoc] using hown'
        case measure => simp [intOf]; omega

set_option maxRecDepth 100000 in
set_option maxHeartbeats 800000 in
theorem refBytes_any (s : ByteArray) (w : World) (hs : s.size ≤ 1000000000) :
    Calls Tryd.prog 57 #[.string s] w (PutPost (WM.encB s.data.toList) w) := by
  obtain ⟨i0, hi, hz0, hz1, hz2⟩ := info_parts Tryd.info8
  have hel : (WM.encI (s.size : Int)).length ≤ 10 := WM.encI_le ⟨by omega, by omega⟩
  go_enter Tryd.func57, Tryd.ntmps57
  go_wp2_with fail
  refine (refInt_any (s.size : Int) _ (by omega) (by omega)).mono ?_
  rintro e w1 ⟨v1, rfl, hown1, hb1⟩
  have hlt1 := hown1.lt
  have hsz := hb1.size
  go_wp2_with (at_builtin; refine Lib.wpList_append_own_string _ rfl _ _ 22 9 rfl w.heap.size 5 i0 Tryd.underlying22 Tryd.underlying9 hi hz0 hz1 hz2 _ _ _ rfl hown1 s rfl ?c1 ?c2 ?c3 ?_)
  case c1 => unfold maxLen; omega
  case c2 => omega
  case c3 => omega
  intro v2 w2 hown2 hgrow _
  clear hown1
  go_wp2
  go_ret
  refine ⟨_, rfl, ?_, hb1.grown hgrow (by omega) (fun k hk => (hlt1 k hk).1)⟩
  unfold WM.encB
  rw [bytes_size, List.length_append, bytes_size, List.map_append, ← strCells_B8]
  exact hown2

theorem below_join {a b c : World} (h : Below a.heap.size a b) (k : Below b.heap.size b c) : Below a.heap.size a c := h.trans (k.mono h.size)
theorem Holds.next {w w' : World} {A : Option Addr} {xs : List Value} (h : Holds w A xs) (hb : Below w.heap.size w w') : Holds w' A xs := h.keep (Keeps.of hb)
end Go.Proofs.YtnhnfdfjlagcjaaDoor
