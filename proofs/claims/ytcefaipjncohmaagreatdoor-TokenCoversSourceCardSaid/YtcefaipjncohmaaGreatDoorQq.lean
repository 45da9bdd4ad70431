/-
  Contracts of the walks over FormatInt in base 16 and Hex. Conditions: the library's table lies there.
-/
import Derived.Test.YtcefaipjncohmaaGreatDoorQp
import Derived.Lib.ConvBytes
import Derived.IntWalk
import Derived.Laws.BitsAllLaws
namespace Go.Proofs.YtcefaipjncohmaaGreatDoor
set_option linter.unusedVariables false
set_option linter.unusedSimpArgs false
open Go.RowKit Go.Shelf

set_option maxRecDepth 100000 in
theorem tz64_any (w : World) (h : w.cell? ⟨7, 15, none⟩ = some (.int .u8 4)) : Calls Tryz.prog 107 #[.int .u64 16] w fun e w' => e = .returned (.int .i64 4) ∧ Below w.heap.size w w' := by
  have e1 : IntKind.u64.wrap (-16) = 18446744073709551600 := by decide
  have e2 : bits .and .u64 16 18446744073709551600 = 16 := by decide
  have e3 : IntKind.u64.wrap 4573923408821661840 = 4573923408821661840 := by decide
  go_enter Tryz.func107, Tryz.ntmps107
  go_wp2
  go_ret
  exact ⟨rfl, Below.refl _ _⟩
theorem tz_any (w : World) (h : w.cell? ⟨7, 15, none⟩ = some (.int .u8 4)) : Calls Tryz.prog 104 #[.int .u64 16] w fun e w' => e = .returned (.int .i64 4) ∧ Below w.heap.size w w' := by
  go_enter Tryz.func104, Tryz.ntmps104
  go_wp2_with fail
  (with_reducible refine (tz64_any _ h).mono ?_)
  rintro e w1 ⟨rfl, hb1⟩
  go_wp2
  go_ret
  exact ⟨rfl, hb1⟩
set_option maxRecDepth 100000 in
theorem pow2_any (w : World) : Calls Tryz.prog 103 #[.int .i64 16] w fun e w' => e = .returned (.bool true) ∧ Below w.heap.size w w' := by
  have e1 : bits .and .i64 16 15 = 0 := by decide
  go_enter Tryz.func103, Tryz.ntmps103
  go_wp2
  go_ret
  exact ⟨rfl, Below.refl _ _⟩
/-- Digits in base 16. -/
def digs16 : List UInt8 := [48, 49, 50, 51, 52, 53, 54, 55, 56, 57, 97, 98, 99, 100, 101, 102]
def digH (d : Nat) : UInt8 := digs16.getD d 0
def hexF : Nat → Nat → List UInt8
  | 0, _ => []
  | f + 1, n => if n < 16 then [digH n] else hexF f (n / 16) ++ [digH (n % 16)]
/-- A number in base 16. -/
def hexD (n : Nat) : List UInt8 := hexF 9 n
theorem hexF_more : ∀ (f n : Nat), n < 16 ^ (f + 1) → hexF (f + 2) n = hexF (f + 1) n
  | 0, n, h => by
    have h1 : n < 16 := by simpa using h
    unfold hexF
    rw [if_pos h1, if_pos h1]
  | f + 1, n, h => by
    have e : hexF (f + 1 + 2) n = if n < 16 then [digH n] else hexF (f + 2) (n / 16) ++ [digH (n % 16)] := rfl
    have e2 : hexF (f + 1 + 1) n = if n < 16 then [digH n] else hexF (f + 1) (n / 16) ++ [digH (n % 16)] := rfl
    rw [e, e2]
    split
    · rfl
    · rw [hexF_more f (n / 16) (by rw [Nat.pow_succ] at h; omega)]
theorem hexD_step {n : Nat} (h : n ≤ 1073741824) (h16 : ¬ n < 16) : hexD n = hexD (n / 16) ++ [digH (n % 16)] := by
  have e : hexD n = if n < 16 then [digH n] else hexF 8 (n / 16) ++ [digH (n % 16)] := rfl
  rw [e, if_neg h16]
  congr 1
  exact (hexF_more 7 (n / 16) (by omega)).symm
theorem hexD_last {n : Nat} (h16 : n < 16) : hexD n = [digH n] := by
  have e : hexD n = if n < 16 then [digH n] else hexF 8 (n / 16) ++ [digH (n % 16)] := rfl
  rw [e, if_pos h16]
def B8 (c : UInt8) : Value := .int .u8 (c.toNat : Int)
def rowH (i : Nat) (ds : List UInt8) : List Value := (List.replicate i (0 : UInt8) ++ ds).map B8
theorem rowH_len (i : Nat) (ds : List UInt8) : (rowH i ds).length = i + ds.length := by unfold rowH; simp
theorem rowH_set (i : Nat) (ds : List UInt8) (d : UInt8) : splice (rowH (i + 1) ds) i [B8 d] = rowH i (d :: ds) := by
  unfold splice rowH
  rw [List.replicate_succ', List.append_assoc, List.map_append, List.map_append]
  have hl : ((List.replicate i (0 : UInt8)).map B8).length = i := by simp
  rw [List.take_append_of_le_length (by omega), List.take_of_length_le (by omega), List.drop_append]
  simp
theorem B8_one (l : List UInt8) : ∀ u ∈ l.map B8, u.oneCell' = true := by
  intro u hu; simp only [List.mem_map] at hu; obtain ⟨c, _, rfl⟩ := hu; rfl
theorem ofNat_toNat8 (c : UInt8) : UInt8.ofNat ((c.toNat : Int)).toNat = c := by simp
theorem run_conv (w : World) (ad : Addr) (cap : Nat) (l : List UInt8) (hh : ∀ k u, (l.map B8)[k]? = some u → w.cell? (ad.add k) = some u) :
    (convert 59 9 (.slice (some ad) l.length cap)).run Tryz.prog w = .ok (.string ⟨l.toArray⟩) w := by
  have hl : (loadCells ad l.length).run Tryz.prog w = .ok ((l.map fun c => (c.toNat : Int)).map (Value.int .u8)).toArray w := by
    have := run_loadCells_list (P := Tryz.prog) w ad (l.map B8) (fun j v hj => hh j v hj)
    rw [List.length_map] at this
    rw [this, List.map_map]
    rfl
  rw [run_convert_bytes_string w 59 9 5 _ _ _ Tryz.underlying59 Tryz.underlying5 Tryz.underlying9, run_bytesToString w ad l.length cap _ hl, foldl_push_bytes]
  congr 2
  apply ByteArray.ext
  apply Array.toList_inj.1
  simp only [ByteArray.empty, ByteArray.emptyWithCapacity, List.map_map]
  rw [show ((fun n : Int => UInt8.ofNat n.toNat) ∘ fun c : UInt8 => (c.toNat : Int)) = id from funext ofNat_toNat8, List.map_id]
  simp
  rfl
theorem rowH_conv {w : World} {g i : Nat} {t : TypeId} {ds : List UInt8} (h : Blk w g t (rowH i ds)) {n : Nat} (hn : n = ds.length) (c : Nat) : (convert 59 9 (.slice (some ⟨g, i, none⟩) n c)).run Tryz.prog w = .ok (.string ⟨ds.toArray⟩) w := by
  subst hn
  refine run_conv w _ c ds fun k u hu => ?_
  rw [addr_mid]
  refine h.cell ?_
  unfold rowH
  rw [List.map_append, List.getElem?_append_right (by simp), List.length_map, List.length_replicate, Nat.add_sub_cancel_left]
  exact hu
def emp65 : List Value := rowH 65 []
theorem Tryz.zero65 : (Tryz.prog.info? 114).map (·.zero) = some (some (.agg emp65.toArray)) := by kernel_rfl
theorem Tryz.sz8 : (Tryz.prog.info? 5).map (·.size) = some 1 := by kernel_rfl
theorem dig36 (d : Nat) (h : d < 16) (h' : d < ({ data := #[48, 49, 50, 51, 52, 53, 54, 55, 56, 57, 97, 98, 99, 100, 101, 102, 103, 104, 105, 106, 107, 108, 109, 110, 111, 112, 113, 114, 115, 116, 117, 118, 119, 120, 121, 122] } : ByteArray).size) : (({ data := #[48, 49, 50, 51, 52, 53, 54, 55, 56, 57, 97, 98, 99, 100, 101, 102, 103, 104, 105, 106, 107, 108, 109, 110, 111, 112, 113, 114, 115, 116, 117, 118, 119, 120, 121, 122] } : ByteArray)[d]'h') = digH d := by
  have : ∀ m : Fin 16, (({ data := #[48, 49, 50, 51, 52, 53, 54, 55, 56, 57, 97, 98, 99, 100, 101, 102, 103, 104, 105, 106, 107, 108, 109, 110, 111, 112, 113, 114, 115, 116, 117, 118, 119, 120, 121, 122] } : ByteArray)[m.1]'(Nat.lt_trans m.2 (by decide))) = digH m.1 := by decide
  exact this ⟨d, h⟩
def HxRel (n g : Nat) (w : World) (u i : Value) (wr : World) : Prop :=
  ∃ (x k : Nat) (ds : List UInt8), u = .int .u64 (x : Int) ∧ i = .int .i64 (k : Int) ∧ x ≤ 1073741824 ∧ k ≤ 65 ∧ ds.length = 65 - k ∧ x * 16 ^ (65 - k) ≤ 1073741824 ∧ (65 - k ≤ 7) ∧ hexD x ++ ds = hexD n ∧ Blk wr g 114 (rowH k ds) ∧ Below w.heap.size w wr
theorem room16 {x k : Nat} (h : x * 16 ^ (65 - k) ≤ 1073741824) (hx : 16 ≤ x) (hk : k ≤ 65) : 65 - k ≤ 6 := by
  rcases Nat.lt_or_ge (65 - k) 7 with h1 | h1
  · omega
  · exfalso
    have h2 : 16 ^ 7 ≤ 16 ^ (65 - k) := Nat.pow_le_pow_right (by decide) h1
    have h3 : 16 * 16 ^ (65 - k) ≤ x * 16 ^ (65 - k) := Nat.mul_le_mul_right _ hx
    have : (16 : Nat) ^ 7 = 268435456 := by decide
    omega
theorem and15u (y : Nat) (h : y ≤ 1073741824) : bits .and .u64 (y : Int) 15 = ((y % 16 : Nat) : Int) := by
  have e : y &&& 15 = y % 16 := Nat.and_two_pow_sub_one_eq_mod y 4
  rw [← e]
  show IntKind.u64.wrap (((BitVec.ofInt 64 (y : Int) &&& BitVec.ofInt 64 (15 : Int)).toNat : Nat) : Int) = _
  have e2 : BitVec.ofInt 64 (y : Int) = BitVec.ofNat 64 y := BitVec.ofInt_natCast 64 y
  have e3 : BitVec.ofInt 64 (15 : Int) = BitVec.ofNat 64 15 := rfl
  rw [BitVec.toNat_and, e2, e3, BitVec.toNat_ofNat, BitVec.toNat_ofNat, Nat.mod_eq_of_lt (by omega), Nat.mod_eq_of_lt (by omega)]
  show (((y &&& 15 : Nat) : Int)) % 18446744073709551616 = _
  have : y &&& 15 ≤ y := Nat.and_le_left
  omega
theorem conv_of {w : World} {g i : Nat} {t : TypeId} {ds : List UInt8} (h : Blk w g t (rowH i ds)) {n : Nat} (hn : n = ds.length) (c : Nat) : (convert 59 9 (.slice (some ⟨g, i, none⟩) n c)).run Tryz.prog w = .ok (.string ⟨ds.toArray⟩) w := rowH_conv h hn c
theorem ret_nils {a b : ByteArray} (h : a = b) : Ending.returned (.tuple #[.slice none 0 0, .string a]) = Ending.returned (.tuple #[.slice none 0 0, .string b]) := by rw [h]
set_option maxRecDepth 100000 in
set_option maxHeartbeats 3200000 in
theorem fbits_any (n : Nat) (hn : n ≤ 1073741824) (w : World) (h : w.cell? ⟨7, 15, none⟩ = some (.int .u8 4)) :
    Calls Tryz.prog 95 #[.slice none 0 0, .int .u64 (n : Int), .int .i64 16, .bool false, .bool false] w fun e w' => e = .returned (.tuple #[.slice none 0 0, .string ⟨(hexD n).toArray⟩]) ∧ Below w.heap.size w w' := by
  obtain ⟨R, hR⟩ : ∃ R, Hid (hexD n = R) := ⟨_, rfl⟩
  rw [hR.out]
  obtain ⟨E, hE⟩ : ∃ E, Hid (emp65 = E) := ⟨_, rfl⟩
  have hz := Tryz.zero65
  rw [hE.out] at hz
  have HZ := Lib.hid h
  clear h
  have hni : (n : Int) ≤ 1073741824 := by omega
  go_enter Tryz.func95, Tryz.ntmps95
  go_wp2_with (with_reducible refine wpList_alloc (o := ⟨some 12, .alloc 114, _, _, _, _⟩) (by with_unfolding_all rfl) 114 (by with_unfolding_all rfl) (.agg E.toArray) E (by exact hz) (by with_unfolding_all rfl) ?_)
  intro g12 w1 hg12 hs1 hb1 B12
  have hl12 : w.heap.size ≤ g12 := Nat.le_of_eq hg12.out.symm
  have hbe := hb1.mono (Nat.le_of_eq hg12.out.symm)
  rw [← hE.out] at B12
  clear hz hb1 hg12 hs1
  go_wp2_with fail
  (with_reducible refine (pow2_any _).mono ?_)
  rintro e w2 ⟨rfl, hb2⟩
  have B12 := B12.next hb2 B12.lt
  have hbe := below_join hbe hb2
  clear hb2
  have hcz := cellf_below hbe HZ.out
  go_wp2_with fail
  (with_reducible refine (tz_any _ hcz).mono ?_)
  rintro e w3 ⟨rfl, hb3⟩
  have B12 := B12.next hb3 B12.lt
  have hbe := below_join hbe hb3
  clear hb3 hcz
  have B12 : Blk w3 g12 114 (rowH 65 []) := B12
  have H0 : Hid (HxRel n g12 w (.int .u64 (n : Int)) (.int .i64 65) w3) := (⟨n, 65, [], rfl, rfl, hn, Nat.le_refl _, rfl, by simpa using hn, by decide, List.append_nil _, B12, hbe⟩ : HxRel n g12 w (.int .u64 (n : Int)) (.int .i64 65) w3)
  clear B12 hbe
  go_wp2
  go_loopw [1, 13] (HxRel n g12 w) (fun u _ _ => (intOf u).toNat)
  case atStart => exact H0.out
  case round =>
    clear H0
    obtain ⟨x, k, ds, rfl, rfl, hx, hk, hds, hrm, hk7, hq, B12, hbe⟩ := hrel
    have HQ := Lib.hid hq
    have HRM := Lib.hid hrm
    have HDS := Lib.hid hds
    clear hq hrm hds
    by_cases h16 : 16 ≤ x
    · have hroom := room16 HRM.out h16 hk
      have h16i : (16 : Int) ≤ (x : Int) := by omega
      obtain ⟨k1, hk1⟩ : ∃ k1, k = k1 + 1 := ⟨k - 1, by omega⟩
      subst hk1
      have hkk : ((k1 + 1 : Nat) : Int) - 1 = (k1 : Int) := by omega
      have hk65 : (k1 : Int) < 65 := by omega
      have hk0 : (0 : Int) ≤ (k1 : Int) := by omega
      have hand := and15u x hx
      have hst := hexD_step hx (by omega)
      obtain ⟨d, hd⟩ : ∃ d, x % 16 = d := ⟨_, rfl⟩
      have hd16 : d < 16 := by omega
      have hd16i : (d : Int) < 36 := by omega
      have hd0 : (0 : Int) ≤ (d : Int) := by omega
      rw [hd] at hand hst
      obtain ⟨y, hy⟩ : ∃ y, x / 16 = y := ⟨_, rfl⟩
      have hyx : y * 16 ≤ x := by omega
      have hyi : (x : Int) / 16 = (y : Int) := by omega
      rw [hy] at hst
      have HST := Lib.hid hst
      have hdg := fun h' => dig36 d hd16 h'
      obtain ⟨D, hD⟩ : ∃ D, digH d = D := ⟨_, rfl⟩
      rw [hD] at hdg
      have HD := Lib.hid hD
      clear hst hD hd
      go_wp2_with (with_reducible refine wpList_put (o := ⟨none, .store 5 (.tmp 54) (.tmp 53), _, _, _, _⟩) (by with_unfolding_all rfl) 5 (.tmp 54) (.tmp 53) (by with_unfolding_all rfl) g12 k1 (by with_unfolding_all rfl) (B8 D) (by with_unfolding_all rfl) B12 [B8 D] (by with_unfolding_all rfl) (by with_unfolding_all (exact Tryz.sz8)) (by with_unfolding_all (rw [rowH_len]; exact Nat.le_add_right _ _)) (by with_unfolding_all (exact one_cell1 rfl)) ?_)
      intro w4 hu4 C12
      rw [rowH_set] at C12
      have hbe := hbe.trans (hu4.below (B := w.heap.size) hl12)
      clear B12 hu4
      have hlen1 : (D :: ds).length = 65 - k1 := by rw [List.length_cons, HDS.out]; omega
      have hrm1 : y * 16 ^ (65 - k1) ≤ 1073741824 := by
        have e : 65 - k1 = (65 - (k1 + 1)) + 1 := by omega
        rw [e, Nat.pow_succ, Nat.mul_comm (16 ^ (65 - (k1 + 1))) 16, ← Nat.mul_assoc]
        exact Nat.le_trans (Nat.mul_le_mul_right _ hyx) HRM.out
      have HL1 := Lib.hid hlen1
      have HR1 := Lib.hid hrm1
      clear hlen1 hrm1
      go_wp2
      go_roundw
      case rel => exact ⟨y, k1, D :: ds, by go_num, rfl, by omega, by omega, HL1.out, HR1.out, by omega, by rw [← HQ.out, HST.out, HD.out, List.append_assoc]; rfl, C12, hbe⟩
      case measure => simp [intOf]; omega
    · have h16i : ¬ (16 : Int) ≤ (x : Int) := by omega
      have hx16 : x < 16 := by omega
      have hx36 : (x : Int) < 36 := by omega
      have hx0 : (0 : Int) ≤ (x : Int) := by omega
      obtain ⟨k1, hk1⟩ : ∃ k1, k = k1 + 1 := ⟨k - 1, by omega⟩
      subst hk1
      have hkk : ((k1 + 1 : Nat) : Int) - 1 = (k1 : Int) := by omega
      have hk65 : (k1 : Int) < 65 := by omega
      have hk66 : (k1 : Int) ≤ 65 := by omega
      have hk0 : (0 : Int) ≤ (k1 : Int) := by omega
      have hst := hexD_last hx16
      have hdg := fun h' => dig36 x hx16 h'
      obtain ⟨D, hD⟩ : ∃ D, digH x = D := ⟨_, rfl⟩
      rw [hD] at hdg hst
      have HFIN : Hid ((⟨(D :: ds).toArray⟩ : ByteArray) = ⟨R.toArray⟩) := by
        have : (⟨(D :: ds).toArray⟩ : ByteArray) = ⟨R.toArray⟩ := by rw [← hR.out, ← HQ.out, hst]; rfl
        exact this
      have hlen1 : 65 - k1 = (D :: ds).length := by rw [List.length_cons, HDS.out]; omega
      have HL1 := Lib.hid hlen1
      clear hst hD hlen1
      go_wp2_with (with_reducible refine wpList_put (o := ⟨none, .store 5 (.tmp 63) (.tmp 62), _, _, _, _⟩) (by with_unfolding_all rfl) 5 (.tmp 63) (.tmp 62) (by with_unfolding_all rfl) g12 k1 (by with_unfolding_all rfl) (B8 D) (by with_unfolding_all rfl) B12 [B8 D] (by with_unfolding_all rfl) (by with_unfolding_all (exact Tryz.sz8)) (by with_unfolding_all (rw [rowH_len]; exact Nat.le_add_right _ _)) (by with_unfolding_all (exact one_cell1 rfl)) ?_)
      intro w4 hu4 C12
      rw [rowH_set] at C12
      have hbe := hbe.trans (hu4.below (B := w.heap.size) hl12)
      clear B12 hu4
      have hcv := conv_of C12 HL1.out (65 - k1)
      go_wp2
      go_ret2
      exact ⟨ret_nils HFIN.out, hbe⟩
end Go.Proofs.YtcefaipjncohmaaGreatDoor
