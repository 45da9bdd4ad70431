/-
  Contracts of the functions that the statement calls, part 11 of 13 (merged texts: Qq, Qr, Qs). Conditions: as the head of each part says.
-/
import Derived.Test.YtlpocfojgibhjaaDoorGJ
import Derived.Lib.ConvBytes
import Derived.IntWalk
import Derived.Laws.BitsAllLaws

/-
  Contracts of the walks over FormatInt in base 16 and Hex. Conditions: the library's table lies there.
-/
namespace Go.Proofs.YtlpocfojgibhjaaDoor
set_option linter.unusedVariables false
set_option linter.unusedSimpArgs false
open Go.RowKit Go.Shelf

set_option maxRecDepth 100000 in
theorem tz64_any (w : World) (h : w.cell? ⟨7, 15, none⟩ = some (.int .u8 4)) : Calls Tryd.prog 112 #[.int .u64 16] w fun e w' => e = .returned (.int .i64 4) ∧ Below w.heap.size w w' := by
  have e1 : IntKind.u64.wrap (-16) = 18446744073709551600 := by decide
  have e2 : bits .and .u64 16 18446744073709551600 = 16 := by decide
  have e3 : IntKind.u64.wrap 4573923408821661840 = 4573923408821661840 := by decide
  go_enter Tryd.func112, Tryd.ntmps112
  go_wp2
  go_ret
  exact ⟨rfl, Below.refl _ _⟩
theorem tz_any (w : World) (h : w.cell? ⟨7, 15, none⟩ = some (.int .u8 4)) : Calls Tryd.prog 109 #[.int .u64 16] w fun e w' => e = .returned (.int .i64 4) ∧ Below w.heap.size w w' := by
  go_enter Tryd.func109, Tryd.ntmps109
  go_wp2_with fail
  (with_reducible refine (tz64_any _ h).mono ?_)
  rintro e w1 ⟨rfl, hb1⟩
  go_wp2
  go_ret
  exact ⟨rfl, hb1⟩
set_option maxRecDepth 100000 in
theorem pow2_any (w : World) : Calls Tryd.prog 108 #[.int .i64 16] w fun e w' => e = .returned (.bool true) ∧ Below w.heap.size w w' := by
  have e1 : bits .and .i64 16 15 = 0 := by decide
  go_enter Tryd.func108, Tryd.ntmps108
  go_wp2
  go_ret
  exact ⟨rfl, Below.refl _ _⟩
/-- Digits in base 16. -/
def digs16 : List UInt8 := [48, 49, 50, 51, 52, 53, 54, 55, 56, 57, 97, 98, 99, 100, 101, 102]
def digH (d : Nat) : UInt8 := digs16.getD d 0
def hexF : Nat → Nat → List UInt8
  | 0, _ => []
  | f + 1, n => if n < 16 then [digH n] else hexF f (n / 16) ++ [digH (n % 16)]
/-- A number in base 16. -/
def hexD (n : Nat) : List UInt8 := hexF 9 n
theorem hexF_more : ∀ (f n : Nat), n < 16 ^ (f + 1) → hexF (f + 2) n = hexF (f + 1) n
  | 0, n, h => by
    have h1 : n < 16 := by simpa using h
    unfold hexF
    rw [if_pos h1, if_pos h1]
  | f + 1, n, h => by
    have e : hexF (f + 1 + 2) n = if n < 16 then [digH n] else hexF (f + 2) (n / 16) ++ [digH (n % 16)] := rfl
    have e2 : hexF (f + 1 + 1) n = if n < 16 then [digH n] else hexF (f + 1) (n / 16) ++ [digH (n % 16)] := rfl
    rw [e, e2]
    split
    · rfl
    · rw [hexF_more f (n / 16) (by rw [Nat.pow_succ] at h; omega)]
theorem hexD_step {n : Nat} (h : n ≤ 1073741824) (h16 : ¬ n < 16) : hexD n = hexD (n / 16) ++ [digH (n % 16)] := by
  have e : hexD n = if n < 16 then [digH n] else hexF 8 (n / 16) ++ [digH (n % 16)] := rfl
  rw [e, if_neg h16]
  congr 1
  exact (hexF_more 7 (n / 16) (by omega)).symm
theorem hexD_last {n : Nat} (h16 : n < 16) : hexD n = [digH n] := by
  have e : hexD n = if n < 16 then [digH n] else hexF 8 (n / 16) ++ [digH (n % 16)] := rfl
  rw [e, if_pos h16]
def B8 (c : UInt8) : Value := .int .u8 (c.toNat : Int)
def rowH (i : Nat) (ds : List UInt8) : List Value := (List.replicate i (0 : UInt8) ++ ds).map B8
theorem rowH_len (i : Nat) (ds : List UInt8) : (rowH i ds).length = i + ds.length := by unfold rowH; simp
theorem rowH_set (i : Nat) (ds : List UInt8) (d : UInt8) : splice (rowH (i + 1) ds) i [B8 d] = rowH i (d :: ds) := by
  unfold splice rowH
  rw [List.replicate_succ', List.append_assoc, List.map_append, List.map_append]
  have hl : ((List.replicate i (0 : UInt8)).map B8).length = i := by simp
  rw [List.take_append_of_le_length (by omega), List.take_of_length_le (by omega), List.drop_append]
  simp
theorem B8_one (l : List UInt8) : ∀ u ∈ l.map B8, u.oneCell' = true := by
  intro u hu; simp only [List.mem_map] at hu; obtain ⟨c, _, rfl⟩ := hu; rfl
theorem ofNat_toNat8 (c : UInt8) : UInt8.ofNat ((c.toNat : Int)).toNat = c := by simp
theorem run_conv (w : World) (ad : Addr) (cap : Nat) (l : List UInt8) (hh : ∀ k u, (l.map B8)[k]? = some u → w.cell? (ad.add k) = some u) :
    (convert 51 9 (.slice (some ad) l.length cap)).run Tryd.prog w = .ok (.string ⟨l.toArray⟩) w := by
  have hl : (loadCells ad l.length).run Tryd.prog w = .ok ((l.map fun c => (c.toNat : Int)).map (Value.int .u8)).toArray w := by
    have := run_loadCells_list (P := Tryd.prog) w ad (l.map B8) (fun j v hj => hh j v hj)
    rw [List.length_map] at this
    rw [this, List.map_map]
    rfl
  rw [run_convert_bytes_string w 51 9 5 _ _ _ Tryd.underlying51 Tryd.underlying5 Tryd.underlying9, run_bytesToString w ad l.length cap _ hl, foldl_push_bytes]
  congr 2
  apply ByteArray.ext
  apply Array.toList_inj.1
  simp only [ByteArray.empty, ByteArray.emptyWithCapacity, List.map_map]
  rw [show ((fun n : Int => UInt8.ofNat n.toNat) ∘ fun c : UInt8 => (c.toNat : Int)) = id from funext ofNat_toNat8, List.map_id]
  simp
  rfl
theorem rowH_conv {w : World} {g i : Nat} {t : TypeId} {ds : List UInt8} (h : Blk w g t (rowH i ds)) {n : Nat} (hn : n = ds.length) (c : Nat) : (convert 51 9 (.slice (some ⟨g, i, none⟩) n c)).run Tryd.prog w = .ok (.string ⟨ds.toArray⟩) w := by
  subst hn
  refine run_conv w _ c ds fun k u hu => ?_
  rw [addr_mid]
  refine h.cell ?_
  unfold rowH
  rw [List.map_append, List.getElem?_append_right (by simp), List.length_map, List.length_replicate, Nat.add_sub_cancel_left]
  exact hu
def emp65 : List Value := rowH 65 []
theorem Tryd.zero65 : (Tryd.prog.info? 101).map (·.zero) = some (some (.agg emp65.toArray)) := by kernel_rfl
theorem Tryd.sz8 : (Tryd.prog.info? 5).map (·.size) = some 1 := by kernel_rfl
theorem dig36 (d : Nat) (h : d < 16) (h' : d < ({ data := #[48, 49, 50, 51, 52, 53, 54, 55, 56, 57, 97, 98, 99, 100, 101, 102, 103, 104, 105, 106, 107, 108, 109, 110, 111, 112, 113, 114, 115, 116, 117, 118, 119, 120, 121, 122] } : ByteArray).size) : (({ data := #[48, 49, 50, 51, 52, 53, 54, 55, 56, 57, 97, 98, 99, 100, 101, 102, 103, 104, 105, 106, 107, 108, 109, 110, 111, 112, 113, 114, 115, 116, 117, 118, 119, 120, 121, 122] } : ByteArray)[d]'h') = digH d := by
  have : ∀ m : Fin 16, (({ data := #[48, 49, 50, 51, 52, 53, 54, 55, 56, 57, 97, 98, 99, 100, 101, 102, 103, 104, 105, 106, 107, 108, 109, 110, 111, 112, 113, 114, 115, 116, 117, 118, 119, 120, 121, 122] } : ByteArray)[m.1]'(Nat.lt_trans m.2 (by decide))) = digH m.1 := by decide
  exact this ⟨d, h⟩
def HxRel (n g : Nat) (w : World) (u i : Value) (wr : World) : Prop :=
  ∃ (x k : Nat) (ds : List UInt8), u = .int .u64 (x : Int) ∧ i = .int .i64 (k : Int) ∧ x ≤ 1073741824 ∧ k ≤ 65 ∧ ds.length = 65 - k ∧ x * 16 ^ (65 - k) ≤ 1073741824 ∧ (65 - k ≤ 7) ∧ hexD x ++ ds = hexD n ∧ Blk wr g 101 (rowH k ds) ∧ Below w.heap.size w wr
theorem room16 {x k : Nat} (h : x * 16 ^ (65 - k) ≤ 1073741824) (hx : 16 ≤ x) (hk : k ≤ 65) : 65 - k ≤ 6 := by
  rcases Nat.lt_or_ge (65 - k) 7 with h1 | h1
  · omega
  · exfalso
    have h2 : 16 ^ 7 ≤ 16 ^ (65 - k) := Nat.pow_le_pow_right (by decide) h1
    have h3 : 16 * 16 ^ (65 - k) ≤ x * 16 ^ (65 - k) := Nat.mul_le_mul_right _ hx
    have : (16 : Nat) ^ 7 = 268435456 := by decide
    omega
theorem and15u (y : Nat) (h : y ≤ 1073741824) : bits .and .u64 (y : Int) 15 = ((y % 16 : Nat) : Int) := by
  have e : y &&& 15 = y % 16 := Nat.and_two_pow_sub_one_eq_mod y 4
  rw [← e]
  show IntKind.u64.wrap (((BitVec.ofInt 64 (y : Int) &&& BitVec.ofInt 64 (15 : Int)).toNat : Nat) : Int) = _
  have e2 : BitVec.ofInt 64 (y : Int) = BitVec.ofNat 64 y := BitVec.ofInt_natCast 64 y
  have e3 : BitVec.ofInt 64 (15 : Int) = BitVec.ofNat 64 15 := rfl
  rw [BitVec.toNat_and, e2, e3, BitVec.toNat_ofNat, BitVec.toNat_ofNat, Nat.mod_eq_of_lt (by omega), Nat.mod_eq_of_lt (by omega)]
  show (((y &&& 15 : Nat) : Int)) % 18446744073709551616 = _
  have : y &&& 15 ≤ y := Nat.and_le_left
  omega
theorem conv_of {w : World} {g i : Nat} {t : TypeId} {ds : List UInt8} (h : Blk w g t (rowH i ds)) {n : Nat} (hn : n = ds.length) (c : Nat) : (convert 51 9 (.slice (some ⟨g, i, none⟩) n c)).run Tryd.prog w = .ok (.string ⟨ds.toArray⟩) w := rowH_conv h hn c
theorem ret_nils {a b : ByteArray} (h : a = b) : Ending.returned (.tuple #[.slice none 0 0, .string a]) = Ending.returned (.tuple #[.slice none 0 0, .string b]) := by rw [h]
set_option maxRecDepth 100000 in
set_option maxHeartbeats 3200000 in
theorem fbits_any (n : Nat) (hn : n ≤ 1073741824) (w : World) (h : w.cell? ⟨7, 15, none⟩ = some (.int .u8 4)) :
    Calls Tryd.prog 98 #[.slice none 0 0, .int .u64 (n : Int), .int .i64 16, .bool false, .bool false] w fun e w' => e = .returned (.tuple #[.slice none 0 0, .string ⟨(hexD n).toArray⟩]) ∧ Below w.heap.size w w' := by
  obtain ⟨R, hR⟩ : ∃ R, Hid (hexD n = R) := ⟨_, rfl⟩
  rw [hR.out]
  obtain ⟨E, hE⟩ : ∃ E, Hid (emp65 = E) := ⟨_, rfl⟩
  have hz := Tryd.zero65
  rw [hE.out] at hz
  have HZ := Lib.hid h
  clear h
  have hni : (n : Int) ≤ 1073741824 := by omega
  go_enter Tryd.func98, Tryd.ntmps98
  go_wp2_with (with_reducible refine wpList_alloc (o := ⟨some 12, .alloc 101, _, _, _, _⟩) (by with_unfolding_all rfl) 101 (by with_unfolding_all rfl) (.agg E.toArray) E (by exact hz) (by with_unfolding_all rfl) ?_)
  intro g12 w1 hg12 hs1 hb1 B12
  have hl12 : w.heap.size ≤ g12 := Nat.le_of_eq hg12.out.symm
  have hbe := hb1.mono (Nat.le_of_eq hg12.out.symm)
  rw [← hE.out] at B12
  clear hz hb1 hg12 hs1
  go_wp2_with fail
  (with_reducible refine (pow2_any _).mono ?_)
  rintro e w2 ⟨rfl, hb2⟩
  have B12 := B12.next hb2 B12.lt
  have hbe := below_join hbe hb2
  clear hb2
  have hcz := cellf_below hbe HZ.out
  go_wp2_with fail
  (with_reducible refine (tz_any _ hcz).mono ?_)
  rintro e w3 ⟨rfl, hb3⟩
  have B12 := B12.next hb3 B12.lt
  have hbe := below_join hbe hb3
  clear hb3 hcz
  have B12 : Blk w3 g12 101 (rowH 65 []) := B12
  have H0 : Hid (HxRel n g12 w (.int .u64 (n : Int)) (.int .i64 65) w3) := (⟨n, 65, [], rfl, rfl, hn, Nat.le_refl _, rfl, by simpa using hn, by decide, List.append_nil _, B12, hbe⟩ : HxRel n g12 w (.int .u64 (n : Int)) (.int .i64 65) w3)
  clear B12 hbe
  go_wp2
  go_loopw [1, 13] (HxRel n g12 w) (fun u _ _ => (intOf u).toNat)
  case atStart => exact H0.out
  case round =>
    clear H0
    obtain ⟨x, k, ds, rfl, rfl, hx, hk, hds, hrm, hk7, hq, B12, hbe⟩ := hrel
    have HQ := Lib.hid hq
    have HRM := Lib.hid hrm
    have HDS := Lib.hid hds
    clear hq hrm hds
    by_cases h16 : 16 ≤ x
    · have hroom := room16 HRM.out h16 hk
      have h16i : (16 : Int) ≤ (x : Int) := by omega
      obtain ⟨k1, hk1⟩ : ∃ k1, k = k1 + 1 := ⟨k - 1, by omega⟩
      subst hk1
      have hkk : ((k1 + 1 : Nat) : Int) - 1 = (k1 : Int) := by omega
      have hk65 : (k1 : Int) < 65 := by omega
      have hk0 : (0 : Int) ≤ (k1 : Int) := by omega
      have hand := and15u x hx
      have hst := hexD_step hx (by omega)
      obtain ⟨d, hd⟩ : ∃ d, x % 16 = d := ⟨_, rfl⟩
      have hd16 : d < 16 := by omega
      have hd16i : (d : Int) < 36 := by omega
      have hd0 : (0 : Int) ≤ (d : Int) := by omega
      rw [hd] at hand hst
      obtain ⟨y, hy⟩ : ∃ y, x / 16 = y := ⟨_, rfl⟩
      have hyx : y * 16 ≤ x := by omega
      have hyi : (x : Int) / 16 = (y : Int) := by omega
      rw [hy] at hst
      have HST := Lib.hid hst
      have hdg := fun h' => dig36 d hd16 h'
      obtain ⟨D, hD⟩ : ∃ D, digH d = D := ⟨_, rfl⟩
      rw [hD] at hdg
      have HD := Lib.hid hD
      clear hst hD hd
      go_wp2_with (with_reducible refine wpList_put (o := ⟨none, .store 5 (.tmp 54) (.tmp 53), _, _, _, _⟩) (by with_unfolding_all rfl) 5 (.tmp 54) (.tmp 53) (by with_unfolding_all rfl) g12 k1 (by with_unfolding_all rfl) (B8 D) (by with_unfolding_all rfl) B12 [B8 D] (by with_unfolding_all rfl) (by with_unfolding_all (exact Tryd.sz8)) (by with_unfolding_all (rw [rowH_len]; exact Nat.le_add_right _ _)) (by with_unfolding_all (exact one_cell1 rfl)) ?_)
      intro w4 hu4 C12
      rw [rowH_set] at C12
      have hbe := hbe.trans (hu4.below (B := w.heap.size) hl12)
      clear B12 hu4
      have hlen1 : (D :: ds).length = 65 - k1 := by rw [List.length_cons, HDS.out]; omega
      have hrm1 : y * 16 ^ (65 - k1) ≤ 1073741824 := by
        have e : 65 - k1 = (65 - (k1 + 1)) + 1 := by omega
        rw [e, Nat.pow_succ, Nat.mul_comm (16 ^ (65 - (k1 + 1))) 16, ← Nat.mul_assoc]
        exact Nat.le_trans (Nat.mul_le_mul_right _ hyx) HRM.out
      have HL1 := Lib.hid hlen1
      have HR1 := Lib.hid hrm1
      clear hlen1 hrm1
      go_wp2
      go_roundw
      case rel => exact ⟨y, k1, D :: ds, by go_num, rfl, by omega, by omega, HL1.out, HR1.out, by omega, by rw [← HQ.out, HST.out, HD.out, List.append_assoc]; rfl, C12, hbe⟩
      case measure => simp [intOf]; omega
    · have h16i : ¬ (16 : Int) ≤ (x : Int) := by omega
      have hx16 : x < 16 := by omega
      have hx36 : (x : Int) < 36 := by omega
      have hx0 : (0 : Int) ≤ (x : Int) := by omega
      obtain ⟨k1, hk1⟩ : ∃ k1, k = k1 + 1 := ⟨k - 1, by omega⟩
      subst hk1
      have hkk : ((k1 + 1 : Nat) : Int) - 1 = (k1 : Int) := by omega
      have hk65 : (k1 : Int) < 65 := by omega
      have hk66 : (k1 : Int) ≤ 65 := by omega
      have hk0 : (0 : Int) ≤ (k1 : Int) := by omega
      have hst := hexD_last hx16
      have hdg := fun h' => dig36 x hx16 h'
      obtain ⟨D, hD⟩ : ∃ D, digH x = D := ⟨_, rfl⟩
      rw [hD] at hdg hst
      have HFIN : Hid ((⟨(D :: ds).toArray⟩ : ByteArray) = ⟨R.toArray⟩) := by
        have : (⟨(D :: ds).toArray⟩ : ByteArray) = ⟨R.toArray⟩ := by rw [← hR.out, ← HQ.out, hst]; rfl
        exact this
      have hlen1 : 65 - k1 = (D :: ds).length := by rw [List.length_cons, HDS.out]; omega
      have HL1 := Lib.hid hlen1
      clear hst hD hlen1
      go_wp2_with (with_reducible refine wpList_put (o := ⟨none, .store 5 (.tmp 63) (.tmp 62), _, _, _, _⟩) (by with_unfolding_all rfl) 5 (.tmp 63) (.tmp 62) (by with_unfolding_all rfl) g12 k1 (by with_unfolding_all rfl) (B8 D) (by with_unfolding_all rfl) B12 [B8 D] (by with_unfolding_all rfl) (by with_unfolding_all (exact Tryd.sz8)) (by with_unfolding_all (rw [rowH_len]; exact Nat.le_add_right _ _)) (by with_unfolding_all (exact one_cell1 rfl)) ?_)
      intro w4 hu4 C12
      rw [rowH_set] at C12
      have hbe := hbe.trans (hu4.below (B := w.heap.size) hl12)
      clear B12 hu4
      have hcv := conv_of C12 HL1.out (65 - k1)
      go_wp2
      go_ret2
      exact ⟨ret_nils HFIN.out, hbe⟩
end Go.Proofs.YtlpocfojgibhjaaDoor

/-
  Contracts of the walks over FormatInt in base 16, Hex, Repeat, and the law's kinds. Conditions: the library's table lies there.
-/
namespace Go.Proofs.YtlpocfojgibhjaaDoor
set_option linter.unusedVariables false
set_option linter.unusedSimpArgs false
open Go.RowKit Go.Shelf

/-- The library's table lies there. -/
def DB (w : World) : Prop := w.cell? ⟨7, 15, none⟩ = some (.int .u8 4)
theorem DB.next {w w' : World} (h : DB w) (hb : Below w.heap.size w w') : DB w' := cellf_below hb h
set_option maxRecDepth 100000 in
theorem ifmt_any (n : Nat) (hn : n ≤ 1073741824) (w : World) (h : DB w) :
    Calls Tryd.prog 85 #[.int .i64 (n : Int), .int .i64 16] w fun e w' => e = .returned (.string ⟨(hexD n).toArray⟩) ∧ Below w.heap.size w w' := by
  have HB := fun w (h : DB w) => fbits_any n hn w h
  obtain ⟨R, hR⟩ : ∃ R, (⟨(hexD n).toArray⟩ : ByteArray) = R := ⟨_, rfl⟩
  rw [hR] at HB ⊢
  have hni : (n : Int) ≤ 1073741824 := by omega
  have hn0 : ¬ (n : Int) < 0 := by omega
  go_enter Tryd.func85, Tryd.ntmps85
  go_wp2_with fail
  (with_reducible refine (HB _ h).mono ?_)
  rintro e w1 ⟨rfl, hb1⟩
  go_wp2
  go_ret
  exact ⟨rfl, hb1⟩
set_option maxRecDepth 100000 in
theorem fmt_any (n : Nat) (hn : n ≤ 1073741824) (w : World) (h : DB w) :
    Calls Tryd.prog 49 #[.int .i64 (n : Int), .int .i64 16] w fun e w' => e = .returned (.string ⟨(hexD n).toArray⟩) ∧ Below w.heap.size w w' := by
  have HB := fun w h => ifmt_any n hn w h
  obtain ⟨R, hR⟩ : ∃ R, (⟨(hexD n).toArray⟩ : ByteArray) = R := ⟨_, rfl⟩
  rw [hR] at HB ⊢
  go_enter Tryd.func49, Tryd.ntmps49
  go_wp2_with fail
  (with_reducible refine (HB _ h).mono ?_)
  rintro e w1 ⟨rfl, hb1⟩
  go_wp2
  go_ret
  exact ⟨rfl, hb1⟩
theorem hexF_len : ∀ f n : Nat, (hexF f n).length ≤ f
  | 0, n => Nat.le_refl 0
  | f + 1, n => by
    unfold hexF
    have := hexF_len f (n / 16)
    split
    · simp
    · simp; omega
theorem hexD_len (n : Nat) : (hexD n).length ≤ 9 := hexF_len 9 n
/-- A number with its prefix. -/
def hexM (n : Int) : List UInt8 := if n < 0 ∨ 1073741824 < n then [] else 48 :: 120 :: hexD n.toNat
set_option maxRecDepth 100000 in
set_option maxHeartbeats 1600000 in
theorem hex_any (n : Int) (w : World) (h : DB w) :
    Calls Tryd.prog 20 #[.int .i64 n] w fun e w' => e = .returned (.string ⟨(hexM n).toArray⟩) ∧ Below w.heap.size w w' := by
  by_cases h0 : n < 0
  · have hr : hexM n = [] := if_pos (Or.inl h0)
    rw [hr]
    go_enter Tryd.func20, Tryd.ntmps20
    go_wp2
    go_ret
    exact ⟨rfl, Below.refl _ _⟩
  · by_cases h1 : 1073741824 < n
    · have hr : hexM n = [] := if_pos (Or.inr h1)
      rw [hr]
      go_enter Tryd.func20, Tryd.ntmps20
      go_wp2
      go_ret
      exact ⟨rfl, Below.refl _ _⟩
    · have hr : hexM n = 48 :: 120 :: hexD n.toNat := if_neg (by omega)
      obtain ⟨m, rfl⟩ : ∃ m : Nat, n = (m : Int) := ⟨n.toNat, by omega⟩
      have hm : m ≤ 1073741824 := by omega
      have hmi : ¬ (1073741824 : Int) < (m : Int) := by omega
      rw [hr, Int.toNat_natCast]
      have HB := fun w h => fmt_any m hm w h
      obtain ⟨R, hR⟩ : ∃ R, (⟨(hexD m).toArray⟩ : ByteArray) = R := ⟨_, rfl⟩
      have hfin : (⟨(48 :: 120 :: hexD m).toArray⟩ : ByteArray) = { data := #[48, 120] } ++ R := by
        apply data_inj
        rw [← hR]
        simp
      have hcat : ¬ 9223372036854775807 < 2 + R.size := by
        have := hexD_len m
        rw [← hR, mk_size]
        omega
      rw [hR] at HB
      have HF := Lib.hid hfin
      clear hr hR hfin h0 h1
      rw [HF.out]
      go_enter Tryd.func20, Tryd.ntmps20
      go_wp2_with fail
      (with_reducible refine (HB _ h).mono ?_)
      rintro e w1 ⟨rfl, hb1⟩
      go_wp2
      go_ret
      exact ⟨rfl, hb1⟩
/-- The kinds of tokens, as digits, without the end. -/
def kdig (t : Tok) : UInt8 := UInt8.ofNat (48 + t.kind)
def kindsM (l : List UInt8) : List UInt8 := (toks l false 0 1 1).dropLast.map kdig
theorem toks_kinds : ∀ (l : List UInt8) (ins : Bool) (k ln cl : Nat), toks l ins k ln cl ≠ [] ∧ (∀ t ∈ (toks l ins k ln cl).dropLast, t.kind ≤ 5) ∧ ∃ t, (toks l ins k ln cl).getLast? = some t ∧ t.kind = 6
  | [], ins, k, ln, cl => by rw [toks_end]; exact ⟨by simp, by simp, ⟨6, 0, [], ln, cl⟩, rfl, rfl⟩
  | b :: r, ins, k + 1, ln, cl => toks_kinds r ins k ln (cl + 1)
  | b :: r, ins, 0, ln, cl => by
    rw [toks_cons]
    split
    · exact toks_kinds r _ _ _ _
    · rename_i h10
      split
      · exact toks_kinds r _ _ _ _
      · rename_i h35
        split
        · exact toks_kinds r _ _ _ _
        · rename_i hs
          obtain ⟨h1, h2, tl, h3, h4⟩ := toks_kinds r false ((tokM (b :: r)).len - 1) ln (cl + 1)
          refine ⟨by simp, ?_, tl, ?_, h4⟩
          · rw [List.dropLast_cons_of_ne_nil h1]
            intro t ht
            rcases List.mem_cons.1 ht with rfl | ht
            · have hn : nog (b :: r) = true := by
                have : b ≠ 35 := fun e => h35 (Or.inr e)
                simp [nog, hs, this]
              exact (tokM_kind hn).2
            · exact h2 t ht
          · rw [List.getLast?_cons, h3]; rfl
theorem run_dg0 (w : World) : (convert 21 9 (.int .i32 48)).run Tryd.prog w = .ok (.string { data := #[48] }) w := by kernel_rfl
theorem run_dg1 (w : World) : (convert 21 9 (.int .i32 49)).run Tryd.prog w = .ok (.string { data := #[49] }) w := by kernel_rfl
theorem run_dg2 (w : World) : (convert 21 9 (.int .i32 50)).run Tryd.prog w = .ok (.string { data := #[50] }) w := by kernel_rfl
theorem run_dg3 (w : World) : (convert 21 9 (.int .i32 51)).run Tryd.prog w = .ok (.string { data := #[51] }) w := by kernel_rfl
theorem run_dg4 (w : World) : (convert 21 9 (.int .i32 52)).run Tryd.prog w = .ok (.string { data := #[52] }) w := by kernel_rfl
theorem run_dg5 (w : World) : (convert 21 9 (.int .i32 53)).run Tryd.prog w = .ok (.string { data := #[53] }) w := by kernel_rfl
theorem run_dg6 (w : World) : (convert 21 9 (.int .i32 54)).run Tryd.prog w = .ok (.string { data := #[54] }) w := by kernel_rfl
theorem run_digit (d : Nat) (h : d ≤ 6) (w : World) : (convert 21 9 (.int .i32 ((48 : Int) + (d : Int)))).run Tryd.prog w = .ok (.string { data := #[UInt8.ofNat (48 + d)] }) w := by
  have : d = 0 ∨ d = 1 ∨ d = 2 ∨ d = 3 ∨ d = 4 ∨ d = 5 ∨ d = 6 := by omega
  rcases this with e | e | e | e | e | e | e
  · rw [e]; exact run_dg0 w
  · rw [e]; exact run_dg1 w
  · rw [e]; exact run_dg2 w
  · rw [e]; exact run_dg3 w
  · rw [e]; exact run_dg4 w
  · rw [e]; exact run_dg5 w
  · rw [e]; exact run_dg6 w
def KdRel (l : List Tok) (w : World) (i o : Value) (wr : World) : Prop :=
  ∃ k : Nat, k ≤ l.length - 1 ∧ i = .int .i64 (k : Int) ∧ o = .string ⟨((l.take k).map kdig).toArray⟩ ∧ Below w.heap.size w wr
set_option maxRecDepth 100000 in
set_option maxHeartbeats 1600000 in
theorem kinds_any (s : ByteArray) (hs : s.size ≤ 60000) (w : World) (hT : TT w) :
    Calls Tryd.prog 27 #[.string s] w fun e w' => e = .returned (.string ⟨(kindsM s.data.toList).toArray⟩) ∧ Below w.heap.size w w' := by
  have HTK := fun w hT => tokens_any s hs w hT
  obtain ⟨h1, h2, tl, h3, h4⟩ := toks_kinds s.data.toList false 0 1 1
  have hbd : (toks s.data.toList false 0 1 1).length ≤ s.size + 1 := by
    have := toks_len s.data.toList false 0 1 1
    rw [bytes_size] at this; exact this
  unfold TokRes at HTK
  unfold kindsM
  obtain ⟨T, hTT⟩ : ∃ T, toks s.data.toList false 0 1 1 = T := ⟨_, rfl⟩
  simp only [hTT] at HTK h1 h2 h3 hbd ⊢
  have HT := Lib.hid hT
  clear hT hTT
  have hdl : T.dropLast = T.take (T.length - 1) := List.dropLast_eq_take
  obtain ⟨n, hn⟩ : ∃ n, Hid (T.length = n + 1) := ⟨T.length - 1, by
    have : T.length ≠ 0 := fun e => h1 (List.eq_nil_of_length_eq_zero e)
    show T.length = T.length - 1 + 1
    omega⟩
  rw [hn.out, Nat.add_sub_cancel] at hdl
  have hlast : ∃ t, T[n]? = some t ∧ t.kind = 6 := by
    refine ⟨tl, ?_, h4⟩
    rw [List.getLast?_eq_getElem?, hn.out, Nat.add_sub_cancel] at h3
    exact h3
  have hkd : ∀ k t, k < n → T[k]? = some t → t.kind ≤ 6 := fun k t hk ht => by
    refine Nat.le_trans (h2 t ?_) (by decide)
    rw [hdl]
    refine List.mem_iff_getElem?.2 ⟨k, ?_⟩
    rw [List.getElem?_take, if_pos hk]; exact ht
  rw [hdl]
  have HLS := Lib.hid hlast
  have HKD := Lib.hid hkd
  have hn6 : n ≤ 60000 := by have := hn.out; omega
  obtain ⟨F, hF⟩ : ∃ F : ByteArray, Hid (⟨((T.take n).map kdig).toArray⟩ = F) := ⟨_, rfl⟩
  rw [hF.out]
  simp only [hn.out] at HTK
  clear h1 h2 h3 h4 hbd hdl hlast hkd hs
  have hni : (n : Int) ≤ 60000 := by omega
  have hnn : ((n + 1 : Nat) : Int) = (n : Int) + 1 := by omega
  go_enter Tryd.func27, Tryd.ntmps27
  go_wp2_with fail
  (with_reducible refine (HTK _ HT.out).mono ?_)
  rintro e w1 ⟨⟨A, c, rfl, Ow⟩, hbe⟩
  have hTk := tks_own (l := T) Ow
  have HA := Lib.hid hTk
  clear hTk Ow
  go_wp2
  go_loopw [6, 5] (KdRel T w1) (fun i _ _ => n - (intOf i).toNat)
  case atStart => exact ⟨0, Nat.zero_le _, rfl, rfl, Below.refl _ _⟩
  case round =>
    obtain ⟨k, hk, rfl, rfl, hbx⟩ := hrel
    rw [hn.out, Nat.add_sub_cancel] at hk
    by_cases hlt : k < n
    · have hki : (k : Int) < (n : Int) := by omega
      have hk0 : (0 : Int) ≤ (k : Int) := by omega
      have hki2 : (k : Int) + 1 < (n : Int) + 1 := by omega
      have hki3 : (k : Int) < (n : Int) + 1 := by omega
      obtain ⟨t, ht⟩ : ∃ t, T[k]? = some t := ⟨_, List.getElem?_eq_getElem (by rw [hn.out]; omega)⟩
      obtain ⟨ga, oa, hAe, hc⟩ := (HA.out.next hbx) k t ht
      subst hAe
      have c0 : wr.cell? ⟨ga, oa + k * 5, none⟩ = some (.int .i64 (t.kind : Int)) := hc 0 _ rfl
      have hk6 := HKD.out k t hlt ht
      have hrd := fun w => run_digit t.kind hk6 w
      have htk : (T.take (k + 1)).map kdig = (T.take k).map kdig ++ [kdig t] := by
        obtain ⟨h1, h2⟩ := List.getElem?_eq_some_iff.1 ht
        rw [← List.take_append_getElem h1, h2, List.map_append]; rfl
      have HK2 := Lib.hid htk
      have hsz : ((T.take k).map kdig).length ≤ k := by rw [List.length_map, List.length_take]; omega
      have hKT : ({ data := #[UInt8.ofNat (48 + t.kind)] } : ByteArray) = { data := #[kdig t] } := rfl
      obtain ⟨K, hK⟩ : ∃ K, t.kind = K := ⟨_, rfl⟩
      rw [hK] at c0 hrd hk6
      have hkk6 : (K : Int) ≤ 6 := by omega
      rw [show UInt8.ofNat (48 + K) = kdig t by unfold kdig; rw [hK]] at hrd
      obtain ⟨D, hD⟩ : ∃ D, kdig t = D := ⟨_, rfl⟩
      rw [hD] at hrd
      obtain ⟨O, hO⟩ : ∃ O : ByteArray, (⟨((T.take k).map kdig).toArray⟩ : ByteArray) = O := ⟨_, rfl⟩
      have hos : O.size ≤ 60000 := by rw [← hO, mk_size]; omega
      have hcat : ¬ 9223372036854775807 < O.size + 1 := by omega
      have hnew : Hid ((⟨((T.take (k + 1)).map kdig).toArray⟩ : ByteArray) = O ++ { data := #[D] }) := by
        have : (⟨((T.take (k + 1)).map kdig).toArray⟩ : ByteArray) = O ++ { data := #[D] } := by
          apply data_inj
          rw [← hO, HK2.out, hD]
          simp
        exact this
      rw [hO]
      clear htk hc ht hsz hKT hK hD hO
      go_wp2
      go_roundw
      case rel => exact ⟨k + 1, by rw [hn.out]; omega, by go_num, by rw [hnew.out], hbx⟩
      case measure => simp [intOf]; omega
    · have hkn : k = n := by omega
      subst hkn
      obtain ⟨t, ht, ht6⟩ := HLS.out
      obtain ⟨ga, oa, hAe, hc⟩ := (HA.out.next hbx) k t ht
      subst hAe
      have c0 : wr.cell? ⟨ga, oa + k * 5, none⟩ = some (.int .i64 6) := by
        have := hc 0 _ rfl
        rw [ht6] at this
        exact this
      have hfin := below_join hbe hbx
      rw [hF.out]
      have hk0 : (0 : Int) ≤ (k : Int) := by omega
      have hki : ¬ (k : Int) + 1 < (k : Int) + 1 := by omega
      have hki2 : (k : Int) < (k : Int) + 1 := by omega
      have hkk : ((k : Int) + 1) - 1 = (k : Int) := by omega
      have hkz : ((k : Int) + 1 == 0) = false := beq_eq_false_iff_ne.2 (by omega)
      clear hc ht ht6
      go_wp2
      go_ret
      exact ⟨rfl, hfin⟩
end Go.Proofs.YtlpocfojgibhjaaDoor

/-
  Contract of the walk over the laws' sanity. Conditions: the program's and the library's tables lie there.
-/
namespace Go.Proofs.YtlpocfojgibhjaaDoor
set_option linter.unusedVariables false
set_option linter.unusedSimpArgs false
open Go.RowKit Go.Shelf

/-- The variables lie there. -/
structure QW (w : World) : Prop where
  tt : TT w
  db : DB w
  tab : Lib.TabIs Tryd.prog w "internal/strconv.uint64pow10" .u64 Lib.pow10Tab
  idx : ∃ m : Int, w.cell? ⟨Tryd.replA_ren.g 1, 0, none⟩ = some (.int .i64 m)
theorem tab_next {n : String} {g : Nat} {k : IntKind} {zs : List Int} {w w' : World} (hg : Tryd.prog.globalNamed n = some g) (h : Lib.TabIs Tryd.prog w n k zs) (hb : Below w.heap.size w w') : Lib.TabIs Tryd.prog w' n k zs := by
  unfold Lib.TabIs World.var? at h ⊢
  rw [hg] at h ⊢
  simp only [Option.bind_some] at h ⊢
  have hlt : g < w.heap.size := by
    rcases Nat.lt_or_ge g w.heap.size with hl | hl
    · exact hl
    · rw [Array.getElem?_eq_none hl] at h; cases h
  rw [hb.block g hlt]; exact h
theorem QW.next {w w' : World} (h : QW w) (hb : Below w.heap.size w w') : QW w' := by
  obtain ⟨h1, h2, h3, m, hm⟩ := h
  exact ⟨h1.next hb, h2.next hb, tab_next (g := 3) (by kernel_rfl) h3 hb, m, cellf_below hb hm⟩
def TkB (w : World) (g : Nat) (l : List Tok) : Prop := ∀ k t, l[k]? = some t → ∀ j u, (tCells t)[j]? = some u → w.cell? ⟨g, k * 5 + j, none⟩ = some u
theorem TkB.next {w w' : World} {g : Nat} {l : List Tok} (h : TkB w g l) (hb : Below w.heap.size w w') : TkB w' g l := fun k t ht j u hu => cellf_below hb (h k t ht j u hu)
theorem TkB.at_ {w : World} {g : Nat} {l : List Tok} (h : TkB w g l) : TksAt w (some ⟨g, 0, none⟩) l := fun k t ht => ⟨g, 0, rfl, fun j u hu => by rw [Nat.zero_add]; exact h k t ht j u hu⟩
theorem tkB_own {w : World} {T n c : Nat} {A : Option Addr} {l : List Tok} (h : w.ownsRow T 37 5 (.slice A n c) n (flatT l)) (hn : 0 < n) : ∃ g, A = some ⟨g, 0, none⟩ ∧ T ≤ g ∧ g < w.heap.size ∧ n ≤ c ∧ TkB w g l := by
  rcases h.2 with ⟨_, h0⟩ | ⟨g, cap, cur, hv, hb, h3, hnc, _, hsz, htk⟩
  · omega
  · injection hv with hA _ hc
    subst hc
    refine ⟨g, hA, hb, (Array.getElem?_eq_some_iff.1 h3).1, hnc, fun k t ht j u hu => ?_⟩
    obtain ⟨g2, o2, e2, hc2⟩ := tks_own h k t ht
    rw [hA] at e2
    injection e2 with e2
    injection e2 with e3 e4
    subst e3 e4
    have := hc2 j u hu
    rw [Nat.zero_add] at this
    exact this
theorem Tryd.repX : Builder.Extra Tryd.prog Tryd.repeatA_ren where
  sizeBuilder := by kernel_rfl
  liesBuilder := by kernel_rfl
  t5 := by kernel_rfl
  a5 := run_isAgg_plain (by kernel_rfl : Tryd.prog.underlying (Tryd.repeatA_ren.t 5) = some (.int .u8)) rfl
  z5 := Tryd.replA.z5
  v5 := Tryd.replA.v5
  infoByte := by kernel_rfl
  cellsByte := by kernel_rfl
  sizeByte := by kernel_rfl
  neB5 := by decide
theorem repeat_any (n : Nat) (w : World) (hn : n ≤ 1000000) :
    Calls Tryd.prog 26 #[.string { data := #[35] }, .int .i64 (n : Int)] w fun e w' => e = .returned (.string ⟨(List.replicate n (35 : UInt8)).toArray⟩) ∧ Below w.heap.size w w' := by
  have h := Any.strings_Repeat Tryd.repeatA Tryd.repX { data := #[35] } n w (by omega) (by show 1 * n ≤ _; omega)
  refine Calls.mono h ?_
  rintro e w' ⟨rfl, hb⟩
  refine ⟨?_, hb⟩
  have e1 : Lib.repeatL (ByteArray.mk #[35]).data.toList n = List.replicate n 35 := by
    have := Lib.repeatL_replicate 35 1 n
    rw [Nat.mul_one] at this
    exact this
  rw [e1]
theorem toks_ex : toks [97, 32, 35, 32, 98, 10, 53, 46, 46, 57] false 0 1 1 = [⟨1, 0, [97], 1, 1⟩, ⟨3, 5, [53], 2, 1⟩, ⟨4, 0, [46, 46], 2, 2⟩, ⟨3, 9, [57], 2, 4⟩, ⟨6, 0, [], 2, 5⟩] := by decide +kernel
def exT : List Tok := [⟨1, 0, [97], 1, 1⟩, ⟨3, 5, [53], 2, 1⟩, ⟨4, 0, [46, 46], 2, 2⟩, ⟨3, 9, [57], 2, 4⟩, ⟨6, 0, [], 2, 5⟩]
theorem kd0_any (w : World) (hT : TT w) : Calls Tryd.prog 27 #[.string { data := #[112, 111, 114, 116, 32, 120, 95, 49, 32, 58, 61, 32, 48, 120, 49, 102] }] w fun e w' => e = .returned (.string { data := #[50, 49, 52, 51] }) ∧ Below w.heap.size w w' := by
  have h := kinds_any { data := #[112, 111, 114, 116, 32, 120, 95, 49, 32, 58, 61, 32, 48, 120, 49, 102] } (by decide) w hT
  rw [show kindsM ({ data := #[112, 111, 114, 116, 32, 120, 95, 49, 32, 58, 61, 32, 48, 120, 49, 102] } : ByteArray).data.toList = [50, 49, 52, 51] from by decide +kernel] at h
  exact h
theorem kd1_any (w : World) (hT : TT w) : Calls Tryd.prog 27 #[.string { data := #[48, 48, 55, 32, 120, 45, 62, 49, 32, 45, 32, 48, 120] }] w fun e w' => e = .returned (.string { data := #[53, 49, 52, 51, 53, 53] }) ∧ Below w.heap.size w w' := by
  have h := kinds_any { data := #[48, 48, 55, 32, 120, 45, 62, 49, 32, 45, 32, 48, 120] } (by decide) w hT
  rw [show kindsM ({ data := #[48, 48, 55, 32, 120, 45, 62, 49, 32, 45, 32, 48, 120] } : ByteArray).data.toList = [53, 49, 52, 51, 53, 53] from by decide +kernel] at h
  exact h
theorem kd2_any (w : World) (hT : TT w) : Calls Tryd.prog 27 #[.string { data := #[65] }] w fun e w' => e = .returned (.string { data := #[53] }) ∧ Below w.heap.size w w' := by
  have h := kinds_any { data := #[65] } (by decide) w hT
  rw [show kindsM ({ data := #[65] } : ByteArray).data.toList = [53] from by decide +kernel] at h
  exact h
theorem kd3_any (w : World) (hT : TT w) : Calls Tryd.prog 27 #[.string { data := #[97, 46, 46, 46, 98] }] w fun e w' => e = .returned (.string { data := #[49, 52, 52, 49] }) ∧ Below w.heap.size w w' := by
  have h := kinds_any { data := #[97, 46, 46, 46, 98] } (by decide) w hT
  rw [show kindsM ({ data := #[97, 46, 46, 46, 98] } : ByteArray).data.toList = [49, 52, 52, 49] from by decide +kernel] at h
  exact h
theorem hx0_any (w : World) (h : DB w) : Calls Tryd.prog 20 #[.int .i64 255] w fun e w' => e = .returned (.string { data := #[48, 120, 102, 102] }) ∧ Below w.heap.size w w' := by
  have h2 := hex_any 255 w h
  rw [show hexM 255 = [48, 120, 102, 102] from by decide +kernel] at h2
  exact h2
theorem hx1_any (w : World) (h : DB w) : Calls Tryd.prog 20 #[.int .i64 (-1)] w fun e w' => e = .returned (.string { data := #[] }) ∧ Below w.heap.size w w' := by
  have h2 := hex_any (-1) w h
  rw [show hexM (-1) = [] from by decide +kernel] at h2
  exact h2
theorem nm0_any (w : World) : Calls Tryd.prog 16 #[.string { data := #[48, 120, 48, 48, 102, 102] }] w fun e w' => e = .returned (.tuple #[.int .i64 255, .bool true]) ∧ Below w.heap.size w w' := by
  have h := number_any { data := #[48, 120, 48, 48, 102, 102] } w (by decide)
  rw [show numM ({ data := #[48, 120, 48, 48, 102, 102] } : ByteArray).data.toList = some 255 from by decide +kernel] at h
  exact h
theorem nm1_any (w : World) : Calls Tryd.prog 16 #[.string { data := #[48, 120, 49, 48, 48, 48, 48, 48, 48, 48, 48] }] w fun e w' => e = .returned (.tuple #[.int .i64 0, .bool false]) ∧ Below w.heap.size w w' := by
  have h := number_any { data := #[48, 120, 49, 48, 48, 48, 48, 48, 48, 48, 48] } w (by decide)
  rw [show numM ({ data := #[48, 120, 49, 48, 48, 48, 48, 48, 48, 48, 48] } : ByteArray).data.toList = none from by decide +kernel] at h
  exact h
theorem na0_any (w : World) (hT : TT w) : Calls Tryd.prog 18 #[.string { data := #[120, 95, 49] }] w fun e w' => e = .returned (.bool true) ∧ Below w.heap.size w w' := by
  have h := name_any { data := #[120, 95, 49] } (by decide) w hT
  rw [show nameM ({ data := #[120, 95, 49] } : ByteArray).data.toList = true from by decide +kernel] at h
  exact h
theorem na1_any (w : World) (hT : TT w) : Calls Tryd.prog 18 #[.string { data := #[112, 111, 114, 116] }] w fun e w' => e = .returned (.bool false) ∧ Below w.heap.size w w' := by
  have h := name_any { data := #[112, 111, 114, 116] } (by decide) w hT
  rw [show nameM ({ data := #[112, 111, 114, 116] } : ByteArray).data.toList = false from by decide +kernel] at h
  exact h
theorem ex_tokens (w : World) (hT : TT w) : Calls Tryd.prog 8 #[.string { data := #[97, 32, 35, 32, 98, 10, 53, 46, 46, 57] }] w fun e w' => (∃ g c, e = .returned (.tuple #[.slice (some ⟨g, 0, none⟩) 5 c, .int .i64 0]) ∧ TkB w' g exT) ∧ Below w.heap.size w w' := by
  have h := tokens_any { data := #[97, 32, 35, 32, 98, 10, 53, 46, 46, 57] } (by decide) w hT
  refine Calls.mono h ?_
  rintro e w' ⟨⟨A, c, rfl, Ow⟩, hb⟩
  rw [show ({ data := #[97, 32, 35, 32, 98, 10, 53, 46, 46, 57] } : ByteArray).data.toList = [97, 32, 35, 32, 98, 10, 53, 46, 46, 57] from rfl, toks_ex] at Ow ⊢
  obtain ⟨g, rfl, _, _, _, hB⟩ := tkB_own (l := exT) Ow (by decide)
  exact ⟨⟨g, c, rfl, hB⟩, hb⟩
theorem ex_big (w : World) : Calls Tryd.prog 8 #[.string ⟨(List.replicate 60001 (35 : UInt8)).toArray⟩] w fun e w' => e = .returned (.tuple #[.slice none 0 0, .int .i64 2]) ∧ Below w.heap.size w w' := by
  have h := tokens_big ⟨(List.replicate 60001 (35 : UInt8)).toArray⟩ (by rw [mk_size, List.length_replicate]; decide) w
  refine Calls.mono h ?_
  rintro e w' ⟨rfl, rfl⟩
  exact ⟨rfl, Below.refl _ _⟩
theorem ex_join (g c : Nat) (w : World) (h : TkB w g exT) : Calls Tryd.prog 11 #[.slice (some ⟨g, 0, none⟩) 5 c] w fun e w' => e = .returned (.string { data := #[97, 32, 53, 32, 46, 46, 32, 57] }) ∧ Below w.heap.size w w' := by
  have h2 := join_any (some ⟨g, 0, none⟩) c exT w (by decide) h.at_ (by decide +kernel)
  rw [show joinM exT = [97, 32, 53, 32, 46, 46, 32, 57] from by decide +kernel] at h2
  exact h2
set_option maxRecDepth 100000 in
set_option maxHeartbeats 6400000 in
theorem sanity_any (w : World) (hq : QW w) : Calls Tryd.prog 7 #[] w fun e w' => e = .returned (.bool true) ∧ Below w.heap.size w w' := by
  have HQ := Lib.hid hq
  have HBIG := fun w => ex_big w
  have HREP := fun w => repeat_any 60001 w (by decide)
  obtain ⟨Z, hZ⟩ : ∃ Z : ByteArray, (⟨(List.replicate 60001 (35 : UInt8)).toArray⟩ : ByteArray) = Z := ⟨_, rfl⟩
  rw [hZ] at HBIG HREP
  clear hZ hq
  have HREP : ∀ w, Calls Tryd.prog 26 #[.string { data := #[35] }, .int .i64 60001] w fun e w' => e = .returned (.string Z) ∧ Below w.heap.size w w' := HREP
  go_enter Tryd.func7, Tryd.ntmps7
  go_wp2_with fail
  (with_reducible refine (ex_tokens _ HQ.out.tt).mono ?_)
  rintro e w1 ⟨⟨g, c, rfl, hB⟩, hbe⟩
  have HB := Lib.hid hB
  clear hB
  go_wp2_with fail
  (with_reducible refine (HREP _).mono ?_)
  rintro e w2 ⟨rfl, hb2⟩
  have HB := Lib.hid (HB.out.next hb2)
  have hbe := below_join hbe hb2
  clear hb2
  go_wp2_with fail
  (with_reducible refine (HBIG _).mono ?_)
  rintro e w3 ⟨rfl, hb3⟩
  have HB := Lib.hid (HB.out.next hb3)
  have hbe := below_join hbe hb3
  clear hb3
  go_wp2_with fail
  (with_reducible refine (nm0_any _).mono ?_)
  rintro e w4 ⟨rfl, hb4⟩
  have HB := Lib.hid (HB.out.next hb4)
  have hbe := below_join hbe hb4
  clear hb4
  go_wp2_with fail
  (with_reducible refine (nm1_any _).mono ?_)
  rintro e w5 ⟨rfl, hb5⟩
  have HB := Lib.hid (HB.out.next hb5)
  have hbe := below_join hbe hb5
  clear hb5
  have c03 : w5.cell? ⟨g, 3, none⟩ = some (.int .i64 1) := HB.out 0 _ rfl 3 _ rfl
  have c04 : w5.cell? ⟨g, 4, none⟩ = some (.int .i64 1) := HB.out 0 _ rfl 4 _ rfl
  have c13 : w5.cell? ⟨g, 8, none⟩ = some (.int .i64 2) := HB.out 1 _ rfl 3 _ rfl
  have c14 : w5.cell? ⟨g, 9, none⟩ = some (.int .i64 1) := HB.out 1 _ rfl 4 _ rfl
  have c11 : w5.cell? ⟨g, 6, none⟩ = some (.int .i64 5) := HB.out 1 _ rfl 1 _ rfl
  have c22 : w5.cell? ⟨g, 12, none⟩ = some (.string { data := #[46, 46] }) := HB.out 2 _ rfl 2 _ rfl
  go_wp2_with fail
  (with_reducible refine (kd0_any _ (HQ.out.next hbe).tt).mono ?_)
  rintro e w6 ⟨rfl, hb6⟩
  clear c03 c04 c13 c14 c11 c22
  have HB := Lib.hid (HB.out.next hb6)
  have hbe := below_join hbe hb6
  clear hb6
  go_wp2_with fail
  (with_reducible refine (kd1_any _ (HQ.out.next hbe).tt).mono ?_)
  rintro e w7 ⟨rfl, hb7⟩
  have HB := Lib.hid (HB.out.next hb7)
  have hbe := below_join hbe hb7
  clear hb7
  go_wp2_with fail
  (with_reducible refine (kd2_any _ (HQ.out.next hbe).tt).mono ?_)
  rintro e w8 ⟨rfl, hb8⟩
  have HB := Lib.hid (HB.out.next hb8)
  have hbe := below_join hbe hb8
  clear hb8
  go_wp2_with fail
  (with_reducible refine (kd3_any _ (HQ.out.next hbe).tt).mono ?_)
  rintro e w9 ⟨rfl, hb9⟩
  have HB := Lib.hid (HB.out.next hb9)
  have hbe := below_join hbe hb9
  clear hb9
  go_wp2_with fail
  (with_reducible refine (hx0_any _ (HQ.out.next hbe).db).mono ?_)
  rintro e w10 ⟨rfl, hb10⟩
  have HB := Lib.hid (HB.out.next hb10)
  have hbe := below_join hbe hb10
  clear hb10
  go_wp2_with fail
  (with_reducible refine (hx1_any _ (HQ.out.next hbe).db).mono ?_)
  rintro e w11 ⟨rfl, hb11⟩
  have HB := Lib.hid (HB.out.next hb11)
  have hbe := below_join hbe hb11
  clear hb11
  go_wp2_with fail
  (with_reducible refine (words_any _ (HQ.out.next hbe).tt).mono ?_)
  rintro e w12 ⟨⟨gw, rfl, _⟩, hb12⟩
  have HB := Lib.hid (HB.out.next hb12)
  have hbe := below_join hbe hb12
  clear hb12
  go_wp2_with fail
  (with_reducible refine (ex_join g c _ HB.out).mono ?_)
  rintro e w13 ⟨rfl, hb13⟩
  have HB := Lib.hid (HB.out.next hb13)
  have hbe := below_join hbe hb13
  clear hb13
  go_wp2_with fail
  (with_reducible refine (na0_any _ (HQ.out.next hbe).tt).mono ?_)
  rintro e w14 ⟨rfl, hb14⟩
  have HB := Lib.hid (HB.out.next hb14)
  have hbe := below_join hbe hb14
  clear hb14
  go_wp2_with fail
  (with_reducible refine (na1_any _ (HQ.out.next hbe).tt).mono ?_)
  rintro e w15 ⟨rfl, hb15⟩
  have HB := Lib.hid (HB.out.next hb15)
  have hbe := below_join hbe hb15
  clear hb15
  go_wp2
  go_ret
  exact ⟨rfl, hbe⟩
end Go.Proofs.YtlpocfojgibhjaaDoor
