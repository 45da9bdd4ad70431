/-
  Contracts of the functions that the statements of layer 3 call, part 5 of 10 (merged texts: Hpk, Sg, Sw1, Sw2, Sw3, Hoflaw, Hreg, Sc1, Sc2, Sc3). Conditions: as the head of each part says.
-/
import Derived.Test.YtkakiepaffhhjaaDoorJD
import Derived.Test.YtkakiepaffhhjaaDoorJC
import Derived.WalkMore
import Derived.Deep.WholeRow
import Derived.Deep.MidRow
import Derived.Deep.RegionHeld3
import Derived.Laws.Bits128
import Derived.Test.YtkakiepaffhhjaaDoorJA
import Derived.Deep.RegionHeld

/-
  Contracts of the walks over the reference's padKey and Mac. Conditions: at most 10^7 bytes; its table reads as the document has it.
-/
namespace Go.Proofs.YtkakiepaffhhjaaDoor
open Go.RowKit

/-- The first k bytes of a key, combined with a byte. -/
def xorK (K : List UInt8) (p : UInt8) (k : Nat) : List Value := ((K.take k).map (· ^^^ p)).map B8
theorem xorK_succ (K : List UInt8) (p : UInt8) (k : Nat) (h : k < K.length) : xorK K p (k + 1) = xorK K p k ++ [B8 (K.getD k 0 ^^^ p)] := by
  unfold xorK
  rw [List.take_succ_eq_append_getElem h, List.map_append, List.map_append, List.getD_eq_getElem?_getD, List.getElem?_eq_getElem h]
  rfl
def PkRel (K : List UInt8) (p : UInt8) (w : World) (v i : Value) (wr : World) : Prop :=
  ∃ k : Nat, k ≤ 64 ∧ i = .int .i64 k ∧ wr.ownsRow w.heap.size 5 1 v k (xorK K p k) ∧ Below w.heap.size w wr
theorem rsum_str (w1 : World) (e : TypeId) (b : Nat) (s : ByteArray) (n : Nat) (S : List UInt8) (cap : Nat) (hS : Unit → SM.sum s.data.toList = S) (hb : b = w1.heap.size) (hn : n = s.size) (hl : s.size ≤ 100000000) (HC : LayC w1) :
    Calls Tryd.prog 70 #[.slice (some ⟨b, 0, none⟩) n cap] (Lib.bytesWorld w1 e s) fun e w' => e = .returned (.agg (S.map B8).toArray) ∧ Below w1.heap.size w1 w' := by
  subst hb
  rw [← hS ()]
  have hb := below_bytesWorld w1 e s
  have hh := holds_bytesWorld w1 e s
  refine (rsum_any _ cap _ s.data.toList _ (by rw [bytes_size]; exact hn) (by rw [bytes_size]; exact hl) hh (HC.next hb)).mono ?_
  rintro e w' ⟨rfl, hb'⟩
  exact ⟨rfl, hb.trans (hb'.mono hb.size)⟩
theorem key_at (ks : ByteArray) (K : List UInt8) (hK : K = ks.data.toList ++ SM.zeros (64 - ks.size)) (k : Nat) (h : k < ks.size) : K.getD k 0 = ks[k] := by
  rw [← getD_byte ks k h, hK, List.getD_eq_getElem?_getD, List.getD_eq_getElem?_getD, List.getElem?_append_left (by rw [bytes_size]; exact h)]
theorem key_past (ks : ByteArray) (K : List UInt8) (hK : K = ks.data.toList ++ SM.zeros (64 - ks.size)) (k : Nat) (h : ¬ k < ks.size) (h64 : k < 64) : K.getD k 0 = 0 := by
  rw [hK, List.getD_eq_getElem?_getD, List.getElem?_append_right (by rw [bytes_size]; omega)]
  unfold SM.zeros
  rw [bytes_size, List.getElem?_replicate, if_pos (by omega)]
  rfl

set_option maxRecDepth 100000 in
set_option maxHeartbeats 1600000 in
theorem padKey_any (key : ByteArray) (p : UInt8) (w : World) (hk : key.size ≤ 10000000) (HC : LayC w) :
    Calls Tryd.prog 68 #[.string key, .int .u8 (p.toNat : Int)] w (PutPost ((keyBlk key.data.toList).map (· ^^^ p)) w) := by
  have hkl : Hid (key.data.toList.length = key.size) := bytes_size key
  by_cases h64 : 64 < key.size
  · obtain ⟨S, hS⟩ : ∃ S, (Unit → SM.sum key.data.toList = S) := ⟨_, fun _ => rfl⟩
    have hSl : Hid (S.length = 32) := by rw [← hS ()]; exact SM.sum_length _
    go_enter Tryd.func68, Tryd.ntmps68
    have hcs := fun w' => Lib.run_convert_string_bytes (P := Tryd.prog) w' 9 43 5 key Tryd.underlying9 Tryd.underlying43 Tryd.underlying5
    go_wp2_with fail
    (with_reducible refine (rsum_str w _ _ key _ S _ hS rfl rfl (by omega) HC).mono ?_)
    rintro e w1 ⟨rfl, hb1⟩
    go_wp2_with fail
    (with_reducible refine (bytes32_any S _ hSl.out).mono ?_)
    rintro e w2 ⟨rfl, hb2⟩
    have hbel1 := below_join hb1 hb2
    clear hb1 hb2 hcs
    have HK : Hid (keyBlk key.data.toList = (⟨S.toArray⟩ : ByteArray).data.toList ++ SM.zeros (64 - (⟨S.toArray⟩ : ByteArray).size)) := by
      have : keyBlk key.data.toList = (⟨S.toArray⟩ : ByteArray).data.toList ++ SM.zeros (64 - (⟨S.toArray⟩ : ByteArray).size) := by
        unfold keyBlk
        rw [if_pos (by rw [hkl.out]; exact h64), str_toList, str_size, hSl.out, hS ()]
      exact this
    have hks64 : (⟨S.toArray⟩ : ByteArray).size ≤ 64 := by rw [str_size, hSl.out]; decide
    generalize (⟨S.toArray⟩ : ByteArray) = ks at HK hks64
    clear hS hSl
    obtain ⟨i0, hi, hz0, hz1, hz2⟩ := info_parts Tryd.info8
    go_wp2
    go_loopw [6, 7] (PkRel (keyBlk key.data.toList) p w) (fun _ i _ => 64 - (intOf i).toNat)
    case atStart => exact ⟨0, by omega, rfl, World.ownsRow_nil _ _ _ _, hbel1⟩
    case round =>
      clear hbel1
      obtain ⟨k, hk, rfl, hown, hbel⟩ := hrel
      have hsz := hbel.size
      have hlt2 := hown.lt
      by_cases hlt : k < 64
      · have hsn : Hid (xorK (keyBlk key.data.toList) p (k + 1) = xorK (keyBlk key.data.toList) p k ++ [B8 ((keyBlk key.data.toList).getD k 0 ^^^ p)]) := xorK_succ _ p k (by rw [keyBlk_length]; exact hlt)
        by_cases hks : k < ks.size
        · have hat := key_at ks _ HK.out k hks
          rw [hat] at hsn
          have hxo : bits .xor .u8 (ks[k].toNat : Int) (p.toNat : Int) = ((ks[k].toNat ^^^ p.toNat : Nat) : Int) := by rw [b8_xor, UInt8.toNat_xor]
          go_wp2_with (at_builtin; refine wpList_append_own _ rfl _ _ 43 rfl w.heap.size 5 i0 (.int .u8 0) 1 1 Tryd.underlying43 hi hz0 hz1 hz2 rfl (by decide) _ _ _ rfl (hown.alloc _) ⟨wr.heap.size, 0, none⟩ 1 1 [.int .u8 ((ks[k].toNat ^^^ p.toNat : Nat) : Int)] rfl ?c1 ?c2 ?c3 ?c4 ?c5 ?c6 ?_)
          case c1 => rfl
          case c2 => exact fun j u hu => one_cellB hu
          case c3 => exact one_cell1 rfl
          case c4 => unfold maxLen; omega
          case c5 => omega
          case c6 => simp; omega
          intro v3 w3 hown3 hgrow _
          have hbel3 := (hbel.alloc (by omega) _).grown hgrow (by simp; omega) (fun j hj => (hlt2 j hj).1)
          replace hown3 : w3.ownsRow w.heap.size 5 1 v3 (k + 1) (xorK (keyBlk key.data.toList) p k ++ [B8 (ks[k] ^^^ p)]) := by unfold B8; rw [UInt8.toNat_xor]; exact hown3
          rw [← hsn.out] at hown3
          clear hown hlt2 hgrow hbel hat hsn hxo
          go_wp2
          go_roundw
          case rel => exact ⟨k + 1, by omega, by go_num, hown3, hbel3⟩
          case measure => simp [intOf]; omega
        · have hat := key_past ks _ HK.out k hks hlt
          rw [hat, UInt8.zero_xor] at hsn
          have hxo : bits .xor .u8 0 (p.toNat : Int) = (p.toNat : Int) := by
            have := b8_xor 0 p
            rw [UInt8.zero_xor] at this
            exact this
          go_wp2_with (at_builtin; refine wpList_append_own _ rfl _ _ 43 rfl w.heap.size 5 i0 (.int .u8 0) 1 1 Tryd.underlying43 hi hz0 hz1 hz2 rfl (by decide) _ _ _ rfl (hown.alloc _) ⟨wr.heap.size, 0, none⟩ 1 1 [.int .u8 (p.toNat : Int)] rfl ?c1 ?c2 ?c3 ?c4 ?c5 ?c6 ?_)
          case c1 => rfl
          case c2 => exact fun j u hu => one_cellB hu
          case c3 => exact one_cell1 rfl
          case c4 => unfold maxLen; omega
          case c5 => omega
          case c6 => simp; omega
          intro v3 w3 hown3 hgrow _
          have hbel3 := (hbel.alloc (by omega) _).grown hgrow (by simp; omega) (fun j hj => (hlt2 j hj).1)
          replace hown3 : w3.ownsRow w.heap.size 5 1 v3 (k + 1) (xorK (keyBlk key.data.toList) p k ++ [B8 p]) := hown3
          rw [← hsn.out] at hown3
          clear hown hlt2 hgrow hbel hat hsn hxo
          go_wp2
          go_roundw
          case rel => exact ⟨k + 1, by omega, by go_num, hown3, hbel3⟩
          case measure => simp [intOf]; omega
      · have hke : k = 64 := by omega
        subst hke
        have hta : Hid (xorK (keyBlk key.data.toList) p 64 = ((keyBlk key.data.toList).map (· ^^^ p)).map B8) := by
          have : xorK (keyBlk key.data.toList) p 64 = ((keyBlk key.data.toList).map (· ^^^ p)).map B8 := by
            unfold xorK; rw [List.take_of_length_le (by rw [keyBlk_length]; exact Nat.le_refl _)]
          exact this
        rw [hta.out] at hown
        have hl64 : Hid (((keyBlk key.data.toList).map (· ^^^ p)).length = 64) := by
          have : ((keyBlk key.data.toList).map (· ^^^ p)).length = 64 := by rw [List.length_map, keyBlk_length]
          exact this
        clear hta HK hlt2
        go_wp2
        go_ret
        exact ⟨_, rfl, by rw [hl64.out]; exact hown, hbel⟩
  · go_enter Tryd.func68, Tryd.ntmps68
    obtain ⟨ks, hks0⟩ : ∃ ks, Hid (key = ks) := ⟨_, rfl⟩
    have HK : Hid (keyBlk key.data.toList = ks.data.toList ++ SM.zeros (64 - ks.size)) := by
      have : keyBlk key.data.toList = ks.data.toList ++ SM.zeros (64 - ks.size) := by
        rw [← hks0.out]
        unfold keyBlk
        rw [if_neg (by rw [hkl.out]; exact h64), hkl.out]
      exact this
    have hks64 : ks.size ≤ 64 := by rw [← hks0.out]; omega
    have hbel1 := Below.refl w.heap.size w
    go_wp2
    rw [hks0.out]
    obtain ⟨i0, hi, hz0, hz1, hz2⟩ := info_parts Tryd.info8
    go_wp2
    go_loopw [6, 7] (PkRel (keyBlk key.data.toList) p w) (fun _ i _ => 64 - (intOf i).toNat)
    case atStart => exact ⟨0, by omega, rfl, World.ownsRow_nil _ _ _ _, hbel1⟩
    case round =>
      clear hbel1
      obtain ⟨k, hk, rfl, hown, hbel⟩ := hrel
      have hsz := hbel.size
      have hlt2 := hown.lt
      by_cases hlt : k < 64
      · have hsn : Hid (xorK (keyBlk key.data.toList) p (k + 1) = xorK (keyBlk key.data.toList) p k ++ [B8 ((keyBlk key.data.toList).getD k 0 ^^^ p)]) := xorK_succ _ p k (by rw [keyBlk_length]; exact hlt)
        by_cases hks : k < ks.size
        · have hat := key_at ks _ HK.out k hks
          rw [hat] at hsn
          have hxo : bits .xor .u8 (ks[k].toNat : Int) (p.toNat : Int) = ((ks[k].toNat ^^^ p.toNat : Nat) : Int) := by rw [b8_xor, UInt8.toNat_xor]
          go_wp2_with (at_builtin; refine wpList_append_own _ rfl _ _ 43 rfl w.heap.size 5 i0 (.int .u8 0) 1 1 Tryd.underlying43 hi hz0 hz1 hz2 rfl (by decide) _ _ _ rfl (hown.alloc _) ⟨wr.heap.size, 0, none⟩ 1 1 [.int .u8 ((ks[k].toNat ^^^ p.toNat : Nat) : Int)] rfl ?c1 ?c2 ?c3 ?c4 ?c5 ?c6 ?_)
          case c1 => rfl
          case c2 => exact fun j u hu => one_cellB hu
          case c3 => exact one_cell1 rfl
          case c4 => unfold maxLen; omega
          case c5 => omega
          case c6 => simp; omega
          intro v3 w3 hown3 hgrow _
          have hbel3 := (hbel.alloc (by omega) _).grown hgrow (by simp; omega) (fun j hj => (hlt2 j hj).1)
          replace hown3 : w3.ownsRow w.heap.size 5 1 v3 (k + 1) (xorK (keyBlk key.data.toList) p k ++ [B8 (ks[k] ^^^ p)]) := by unfold B8; rw [UInt8.toNat_xor]; exact hown3
          rw [← hsn.out] at hown3
          clear hown hlt2 hgrow hbel hat hsn hxo
          go_wp2
          go_roundw
          case rel => exact ⟨k + 1, by omega, by go_num, hown3, hbel3⟩
          case measure => simp [intOf]; omega
        · have hat := key_past ks _ HK.out k hks hlt
          rw [hat, UInt8.zero_xor] at hsn
          have hxo : bits .xor .u8 0 (p.toNat : Int) = (p.toNat : Int) := by
            have := b8_xor 0 p
            rw [UInt8.zero_xor] at this
            exact this
          go_wp2_with (at_builtin; refine wpList_append_own _ rfl _ _ 43 rfl w.heap.size 5 i0 (.int .u8 0) 1 1 Tryd.underlying43 hi hz0 hz1 hz2 rfl (by decide) _ _ _ rfl (hown.alloc _) ⟨wr.heap.size, 0, none⟩ 1 1 [.int .u8 (p.toNat : Int)] rfl ?c1 ?c2 ?c3 ?c4 ?c5 ?c6 ?_)
          case c1 => rfl
          case c2 => exact fun j u hu => one_cellB hu
          case c3 => exact one_cell1 rfl
          case c4 => unfold maxLen; omega
          case c5 => omega
          case c6 => simp; omega
          intro v3 w3 hown3 hgrow _
          have hbel3 := (hbel.alloc (by omega) _).grown hgrow (by simp; omega) (fun j hj => (hlt2 j hj).1)
          replace hown3 : w3.ownsRow w.heap.size 5 1 v3 (k + 1) (xorK (keyBlk key.data.toList) p k ++ [B8 p]) := hown3
          rw [← hsn.out] at hown3
          clear hown hlt2 hgrow hbel hat hsn hxo
          go_wp2
          go_roundw
          case rel => exact ⟨k + 1, by omega, by go_num, hown3, hbel3⟩
          case measure => simp [intOf]; omega
      · have hke : k = 64 := by omega
        subst hke
        have hta : Hid (xorK (keyBlk key.data.toList) p 64 = ((keyBlk key.data.toList).map (· ^^^ p)).map B8) := by
          have : xorK (keyBlk key.data.toList) p 64 = ((keyBlk key.data.toList).map (· ^^^ p)).map B8 := by
            unfold xorK; rw [List.take_of_length_le (by rw [keyBlk_length]; exact Nat.le_refl _)]
          exact this
        rw [hta.out] at hown
        have hl64 : Hid (((keyBlk key.data.toList).map (· ^^^ p)).length = 64) := by
          have : ((keyBlk key.data.toList).map (· ^^^ p)).length = 64 := by rw [List.length_map, keyBlk_length]
          exact this
        clear hta HK hlt2
        go_wp2
        go_ret
        exact ⟨_, rfl, by rw [hl64.out]; exact hown, hbel⟩

def blkX (key : ByteArray) (p : UInt8) : List UInt8 := (keyBlk key.data.toList).map (· ^^^ p)
theorem blkX_length (key : ByteArray) (p : UInt8) : (blkX key p).length = 64 := by unfold blkX; rw [List.length_map, keyBlk_length]
theorem mac_eq (key text : ByteArray) : mac key.data.toList text.data.toList = SM.sum (blkX key 92 ++ SM.sum (blkX key 54 ++ text.data.toList)) := rfl
theorem padKey_to (key : ByteArray) (p : UInt8) (pi : Int) (K : List UInt8) (w : World) (hp : pi = (p.toNat : Int)) (hK : Hid (blkX key p = K)) (hk : key.size ≤ 10000000) (HC : LayC w) :
    Calls Tryd.prog 68 #[.string key, .int .u8 pi] w (PutPost K w) := by
  subst hp; rw [← hK.out]; exact padKey_any key p w hk HC
theorem rsum_own (w1 : World) (base : Nat) (v : Value) (n : Nat) (l S : List UInt8) (hS : Unit → SM.sum l = S) (hown : w1.ownsRow base 5 1 v n (l.map B8)) (hn : n = l.length) (hl : l.length ≤ 100000000) (h0 : 0 < n) (HC : LayC w1) :
    Calls Tryd.prog 70 #[v] w1 fun e w' => e = .returned (.agg (S.map B8).toArray) ∧ Below w1.heap.size w1 w' := by
  obtain ⟨g2, c2, rfl, hcs2⟩ := own_some hown h0
  rw [← hS ()]
  exact rsum_any _ c2 n l w1 hn hl (fun j u hu => ⟨_, rfl, hcs2 j u hu⟩) HC
set_option maxRecDepth 100000 in
set_option maxHeartbeats 1600000 in
theorem rmac_any (key text : ByteArray) (M : List UInt8) (w : World) (hM : Unit → mac key.data.toList text.data.toList = M) (hk : key.size ≤ 10000000) (ht : text.size ≤ 10000000) (HC : LayC w) :
    Calls Tryd.prog 54 #[.string key, .string text] w fun e w' => e = .returned (.string ⟨M.toArray⟩) ∧ Below w.heap.size w w' := by
  obtain ⟨i0, hi, hz0, hz1, hz2⟩ := info_parts Tryd.info8
  obtain ⟨K1, hK1⟩ : ∃ K, Hid (blkX key 54 = K) := ⟨_, rfl⟩
  obtain ⟨K2, hK2⟩ : ∃ K, Hid (blkX key 92 = K) := ⟨_, rfl⟩
  have hl1 : Hid (K1.length = 64) := by rw [← hK1.out]; exact blkX_length _ _
  have hl2 : Hid (K2.length = 64) := by rw [← hK2.out]; exact blkX_length _ _
  obtain ⟨S1, hS1⟩ : ∃ S, (Unit → SM.sum (K1 ++ text.data.toList) = S) := ⟨_, fun _ => rfl⟩
  have hs1 : Hid (S1.length = 32) := by rw [← hS1 ()]; exact SM.sum_length _
  have hS2 : Unit → SM.sum (K2 ++ S1) = M := fun _ => by rw [← hM (), mac_eq, hK1.out, hK2.out, hS1 ()]
  have hml : Hid (M.length = 32) := by rw [← hS2 ()]; exact SM.sum_length _
  clear hM
  go_enter Tryd.func54, Tryd.ntmps54
  go_wp2_with fail
  (with_reducible refine (padKey_to key 54 54 K1 _ rfl hK1 hk HC).mono ?_)
  rintro e w1 ⟨v1, rfl, hown1, hb1⟩
  have hlt1 := hown1.lt
  have hsz := hb1.size
  rw [hl1.out] at hown1
  go_wp2_with (at_builtin; refine Lib.wpList_append_own_string _ rfl _ _ 43 9 rfl w.heap.size 5 i0 Tryd.underlying43 Tryd.underlying9 hi hz0 hz1 hz2 _ _ _ rfl hown1 text rfl ?c1 ?c2 ?c3 ?_)
  case c1 => unfold maxLen; omega
  case c2 => omega
  case c3 => omega
  intro v2 w2 hown2 hgrow _
  have hb2 := hb1.grown hgrow (by omega) (fun k hk => (hlt1 k hk).1)
  rw [strCells_B8, ← List.map_append] at hown2
  have HC2 := HC.next hb2
  have hsz2 := hb2.size
  clear hown1 hlt1 hgrow hb1 hsz
  go_wp2_with fail
  (with_reducible refine (padKey_to key 92 92 K2 _ rfl hK2 hk HC2).mono ?_)
  rintro e w3 ⟨v3, rfl, hown3, hb3⟩
  have hlt3 := hown3.lt
  rw [hl2.out] at hown3
  have hown2' := own_next hown2 hb3
  have HC3 := HC2.next hb3
  have hbel3 := below_join hb2 hb3
  have hsz3 := hb3.size
  clear hown2 HC2
  go_wp2_with fail
  (with_reducible refine (rsum_own _ _ _ _ (K1 ++ text.data.toList) S1 hS1 hown2' (by rw [List.length_append, hl1.out, bytes_size]) (by rw [List.length_append, hl1.out, bytes_size]; omega) (by omega) HC3).mono ?_)
  rintro e w4 ⟨rfl, hb4⟩
  have hown4 := own_next hown3 hb4
  have hbel4 := below_join hbel3 hb4
  have hk34 := below_join hb3 hb4
  have HC4 := HC3.next hb4
  clear hown3 hown2' HC3 hb4 hbel3
  go_wp2_with fail
  (with_reducible refine (bytes32_any S1 _ hs1.out).mono ?_)
  rintro e w5 ⟨rfl, hb5⟩
  have hown5 := own_next hown4 hb5
  have hbel5 := below_join hbel4 hb5
  have HC5 := HC4.next hb5
  have hlt5 := hown5.lt
  have hsz5 := hbel5.size
  have hsz25 := (below_join hk34 hb5).size
  have hss : (⟨S1.toArray⟩ : ByteArray).size = 32 := by rw [str_size, hs1.out]
  clear hown4 HC4 hb5 hbel4 hb3 hlt3
  go_wp2_with (at_builtin; refine Lib.wpList_append_own_string _ rfl _ _ 43 9 rfl w2.heap.size 5 i0 Tryd.underlying43 Tryd.underlying9 hi hz0 hz1 hz2 _ _ _ rfl hown5 ⟨S1.toArray⟩ rfl ?d1 ?d2 ?d3 ?_)
  case d1 => unfold maxLen; omega
  case d2 => omega
  case d3 => omega
  intro v6 w6 hown6 hgrow6 _
  have hb6 := hbel5.grown hgrow6 (by omega) (fun k hk => by have := (hlt5 k hk).1; omega)

  rw [strCells_B8, str_toList, ← List.map_append] at hown6
  have HC6 := HC.next hb6
  clear hown5 hlt5 hgrow6 hbel5 hsz5
  go_wp2_with fail
  (with_reducible refine (rsum_own _ _ _ _ (K2 ++ S1) M hS2 hown6 (by rw [List.length_append, hl2.out, hs1.out]) (by rw [List.length_append, hl2.out, hs1.out]; decide) (by decide) HC6).mono ?_)
  rintro e w7 ⟨rfl, hb7⟩
  have hbel7 := below_join hb6 hb7
  clear hown6 HC6 hb7 hb6
  go_wp2_with fail
  (with_reducible refine (bytes32_any M _ hml.out).mono ?_)
  rintro e w8 ⟨rfl, hb8⟩
  have hbel8 := below_join hbel7 hb8
  clear hb8
  go_wp2
  go_ret
  exact ⟨rfl, hbel8⟩
end Go.Proofs.YtkakiepaffhhjaaDoor

/-
  Chapter 3's signatures in plain words: chains, leaves, the tree, digits. Conditions: none.
-/
namespace Go.Proofs.YtkakiepaffhhjaaDoor

namespace SG
/-- hash.Of of a tag and of parts. -/
def hof (t : Nat) (ps : List (List UInt8)) : List UInt8 := (SM.sum (UInt8.ofNat t :: ps.flatMap WM.encB)).take 16
theorem hof_length (t : Nat) (ps : List (List UInt8)) : (hof t ps).length = 16 := by unfold hof; rw [List.length_take, SM.sum_length]; rfl
def ints (l : List Int) : List UInt8 := WM.encAll WM.encI l
def step (i j k : Nat) (v : List UInt8) : List UInt8 := hof 1 [ints [(i : Int), (j : Int), (k : Int)], v]
/-- The value behind n steps from the value with the number a. -/
def climb (i j : Nat) (v : List UInt8) (a : Nat) : Nat → List UInt8
  | 0 => v
  | n + 1 => step i j (a + n + 1) (climb i j v a n)
def start (seed : List UInt8) (i j : Nat) : List UInt8 := (mac seed (ints [(i : Int), (j : Int)])).take 16
def leaf (l : List (List UInt8)) : List UInt8 := hof 1 [WM.encAll (fun d => d) l]
def node (lv n : Nat) (a b : List UInt8) : List UInt8 := hof 2 [ints [(lv : Int), (n : Int)], a, b]
/-- The last values of the chains of a one-time key. -/
def lasts (seed : List UInt8) (i : Nat) : List (List UInt8) := (List.range 35).map fun j => climb i j (start seed i j) 0 15
/-- The value n of a level of the tree of a seed. -/
def value (seed : List UInt8) : Nat → Nat → List UInt8
  | 0, n => leaf (lasts seed n)
  | lv + 1, n => node (lv + 1) n (value seed lv (2 * n)) (value seed lv (2 * n + 1))
def message (pub : List UInt8) (i : Int) (msg : List UInt8) : List UInt8 := hof 3 [pub, WM.encI i, msg]
theorem step_length (i j k : Nat) (v : List UInt8) : (step i j k v).length = 16 := hof_length _ _
theorem climb_length (i j : Nat) (v : List UInt8) (a : Nat) (hv : v.length = 16) : ∀ n, (climb i j v a n).length = 16
  | 0 => hv
  | _ + 1 => step_length _ _ _ _
theorem start_length (seed : List UInt8) (i j : Nat) : (start seed i j).length = 16 := by unfold start; rw [List.length_take, mac_length]; rfl
theorem value_length (seed : List UInt8) : ∀ lv n, (value seed lv n).length = 16
  | 0, _ => hof_length _ _
  | _ + 1, _ => hof_length _ _
theorem climb_add (i j : Nat) (v : List UInt8) (a n : Nat) : ∀ m, climb i j (climb i j v a n) (a + n) m = climb i j v a (n + m)
  | 0 => rfl
  | m + 1 => by
    show step i j (a + n + m + 1) (climb i j (climb i j v a n) (a + n) m) = step i j (a + (n + m) + 1) (climb i j v a (n + m))
    rw [climb_add i j v a n m]
    have : a + n + m + 1 = a + (n + m) + 1 := by omega
    rw [this]
end SG
theorem ofD_hof (t : Nat) (xs : List ByteArray) (h : t < 256) : ofD (t : Int) xs = SG.hof t (strsOf xs) := by
  have e : tagB (t : Int) = UInt8.ofNat t := by
    unfold tagB
    congr 1
    omega
  unfold ofD ofIn SG.hof
  rw [e]
end Go.Proofs.YtkakiepaffhhjaaDoor

/-
  Contracts of the walks over wire.unfold, wire.Int and wire.GetInt. Conditions: an integer is one of 64 bits; at most 10^9 bytes.
-/
namespace Go.Proofs.YtkakiepaffhhjaaDoor
open Go.RowKit

theorem and_one (z : Nat) (h : z < 18446744073709551616) : bits .and .u64 (z : Int) 1 = ((z % 2 : Nat) : Int) := by
  have := bits_and_u64_nat z 1 h (by decide)
  rw [nat_mask1] at this
  exact this
theorem unfold_any (z : Nat) (w : World) (h : z < 18446744073709551616) :
    Calls Tryd.prog 59 #[.int .u64 z] w fun e w' => e = .returned (.int .i64 (WM.unf z)) ∧ w = w' := by
  have ha := and_one z h
  by_cases hz : z % 2 = 1
  · have hb : (bits .and .u64 (z : Int) 1 == 1) = true := by rw [ha, hz]; rfl
    have hn := i64_not (z / 2) (by omega)
    have H := Lib.hid hn
    clear ha hn
    go_enter Tryd.func59, Tryd.ntmps59
    go_wp2
    · go_ret
      refine ⟨?_, rfl⟩
      have := H.out
      unfold WM.unf; rw [if_pos hz]
      show Ending.returned (.int .i64 (bits .xor .i64 (-1) ((z : Int) / 2))) = _
      rw [← this]; rfl
  · have hb : (bits .and .u64 (z : Int) 1 == 1) = false := by rw [ha, show z % 2 = 0 by omega]; rfl
    clear ha
    go_enter Tryd.func59, Tryd.ntmps59
    go_wp2
    go_ret
    exact ⟨by unfold WM.unf; rw [if_neg hz]; rfl, rfl⟩
/-- The contract of Int: a new row. -/
theorem int_any (n : Int) (w : World) (h1 : -9223372036854775808 ≤ n) (h2 : n ≤ 9223372036854775807) :
    Calls Tryd.prog 28 #[.int .i64 n] w fun e w' =>
      ∃ v', e = .returned v' ∧ w'.ownsRow w.heap.size 5 1 v' (WM.encI n).length ((WM.encI n).map B8) ∧ Below w.heap.size w w' := by
  go_enter Tryd.func28, Tryd.ntmps28
  go_wp2_with (go_at_call 47; refine (addInt_any w.heap.size _ 0 [] n _ h1 h2 (World.ownsRow_nil _ _ _ _) (Nat.le_refl _) (by decide)).mono ?_; rintro e w' ⟨v', rfl, hown, hb⟩)
  go_ret
  exact ⟨_, rfl, by simpa using hown, hb⟩
theorem or_step (z d k : Nat) (_hk : k < 10) (hz : z < 128 ^ k) (hs : z + 128 ^ k * d < 18446744073709551616) : bits .or .u64 (z : Int) (IntKind.u64.wrap ((d : Int) * 2 ^ (7 * k))) = ((z + 128 ^ k * d : Nat) : Int) := by
  have e7 : (2 : Int) ^ (7 * k) = ((128 ^ k : Nat) : Int) := by rw [Int.pow_mul]; norm_cast
  have hd : (d : Int) * 2 ^ (7 * k) = ((128 ^ k * d : Nat) : Int) := by rw [e7, Nat.mul_comm]; norm_cast
  rw [hd, IntWalk.u64_in _ ⟨by omega, by omega⟩, bits_or_u64_nat _ _ (by omega) (by omega)]
  have e2 : 128 ^ k = 2 ^ (7 * k) := by rw [Nat.pow_mul]
  have := nat_join (7 * k) (128 ^ k * d) z (by rw [e2]; exact Nat.mul_mod_right _ _) (by rw [← e2]; exact hz)
  rw [Nat.or_comm, this, Nat.add_comm]
theorem unfold_at (x : Int) (z : Nat) (w : World) (h : z < 18446744073709551616) (hx : x = z) :
    Calls Tryd.prog 59 #[.int .u64 x] w fun e w' => e = .returned (.int .i64 (WM.unf z)) ∧ w = w' := by
  subst hx; exact unfold_any z w h
/-- After k bytes that go on. -/
def GetRel (l : List UInt8) (z at_ : Value) : Prop :=
  ∃ (k : Nat) (Z : Int), k ≤ 10 ∧ k ≤ l.length ∧ at_ = .int .i64 k ∧ z = .int .u64 Z ∧ (∀ j, j < k → 128 ≤ (l.getD j 0).toNat) ∧ (k ≤ 9 → Z = (WM.val (l.take k) : Nat))
def GetPost (l : List UInt8) (w : World) (e : Ending) (w' : World) : Prop := e = .returned (.tuple #[.int .i64 (WM.getI l).1, .int .i64 (WM.getI l).2.1, .int .i64 (WM.getI l).2.2]) ∧ w = w'
theorem GetPost.of {l : List UInt8} {w : World} {n : Int} {u : Nat} {x : Int} (h : WM.getI l = (n, u, x)) {a b c : Value} (ha : a = .int .i64 n) (hb : b = .int .i64 u) (hc : c = .int .i64 x) : GetPost l w (.returned (.tuple #[a, b, c])) w := by
  unfold GetPost; rw [h, ha, hb, hc]; exact ⟨rfl, rfl⟩
set_option maxRecDepth 100000 in
set_option maxHeartbeats 800000 in
theorem getInt_any (A : Option Addr) (cap : Nat) (l : List UInt8) (w : World) (hl : l.length ≤ 1000000000) (hh : Holds w A (l.map B8)) :
    Calls Tryd.prog 40 #[.slice A l.length cap] w (GetPost l w) := by
  go_enter Tryd.func40, Tryd.ntmps40
  go_wp2_with fail
  go_step3
  go_wp2_with fail
  go_step3
  go_wp2_with fail
  go_loop [5, 6] (GetRel l) (fun _ i => 10 - (intOf i).toNat)
  case atStart => exact ⟨0, 0, by omega, by omega, rfl, rfl, fun j hj => by omega, fun _ => by simp [WM.val]⟩
  case round =>
    obtain ⟨k, Z, hk10, hkl, rfl, rfl, hj, hZ⟩ := hrel
    have HJ := Lib.hid hj
    have HZ := Lib.hid hZ
    clear hj hZ
    by_cases h10 : k = 10
    · have b1 : ((k : Int) == 10) = true := beq_iff_eq.2 (by omega)
      have HG := Lib.hid (WM.getI_far (WM.lead_eq 10 10 l (h10 ▸ HJ.out) (by omega) (by omega) (.inl rfl)))
      go_wp2_with fail
      go_ret3
      exact GetPost.of HG.out rfl rfl rfl
    · have b1 : ((k : Int) == 10) = false := beq_eq_false_iff_ne.2 (by omega)
      by_cases hend : k = l.length
      · have b2 : ((k : Int) == (l.length : Int)) = true := beq_iff_eq.2 (by omega)
        have HG := Lib.hid (WM.getI_short (WM.lead_eq 10 k l HJ.out (by omega) (by omega) (.inr (.inl hend)) |>.trans hend) (by omega))
        go_wp2_with fail
        go_ret3
        exact GetPost.of HG.out rfl rfl rfl
      · have b2 : ((k : Int) == (l.length : Int)) = false := beq_eq_false_iff_ne.2 (by omega)
        have hklt : k < l.length := by omega
        obtain ⟨ad, rfl, hcell⟩ := hh.byte hklt
        clear hh
        have hc255 : (l.getD k 0).toNat < 256 := (l.getD k 0).toNat_lt
        generalize hcd : l.getD k 0 = c at hcell hc255
        have HC := Lib.hid hcd
        clear hcd
        by_cases hc : c.toNat < 128
        · have HL := Lib.hid (WM.lead_eq 10 k l HJ.out (by omega) (by omega) (.inr (.inr (by rw [HC.out]; exact hc))))
          obtain rfl := HZ.out (by omega)
          clear HZ
          by_cases h9 : 9 ≤ k
          · have q9 : ((k : Int) == 9) = true := beq_iff_eq.2 (by omega)
            by_cases hg : 1 < c.toNat
            · have qz : ((c.toNat : Int) == 0) = false := beq_eq_false_iff_ne.2 (by omega)
              have HG := Lib.hid (WM.getI_bad HL.out (by omega) hklt (by rw [HC.out]; simp [WM.bad]; omega))
              go_wp2_with fail
              try rw [Exit.noGoto_ret]
              go_ret3
              exact GetPost.of HG.out rfl rfl rfl
            · by_cases hz : c.toNat < 1
              · have qz : ((c.toNat : Int) == 0) = true := beq_iff_eq.2 (by omega)
                have HG := Lib.hid (WM.getI_bad HL.out (by omega) hklt (by rw [HC.out]; simp [WM.bad]; omega))
                go_wp2_with fail
                try rw [Exit.noGoto_ret]
                go_ret3
                exact GetPost.of HG.out rfl rfl rfl
              · have qz : ((c.toNat : Int) == 0) = false := beq_eq_false_iff_ne.2 (by omega)
                have hbd : WM.bad k (l.getD k 0) = false := by rw [HC.out]; simp [WM.bad]; omega
                have HG := Lib.hid (WM.getI_good HL.out (by omega) hklt hbd)
                have HV := Lib.hid (WM.val_last_lt (by omega) hklt (by rw [HC.out]; exact hc) hbd)
                have HO := Lib.hid (or_step (WM.val (l.take k)) c.toNat k (by omega) WM.val_take_lt (by have := HV.out; rw [HC.out] at this; omega))
                have HO2 := Lib.hid (HO.out.trans (by have := HV.out.1; rw [HC.out] at this; rw [this] : _ = ((WM.val (l.take (k + 1)) : Nat) : Int)))
                clear hbd
                go_wp2_with (go_at_call 59; refine (unfold_at _ _ _ HV.out.2 HO2.out).mono ?_; rintro e w' ⟨rfl, rfl⟩)
                try rw [Exit.noGoto_ret]
                go_ret3
                exact GetPost.of HG.out rfl (by go_num) rfl
          · have q9 : ((k : Int) == 9) = false := beq_eq_false_iff_ne.2 (by omega)
            by_cases h0 : 0 < k
            · by_cases hz : c.toNat < 1
              · have qz : ((c.toNat : Int) == 0) = true := beq_iff_eq.2 (by omega)
                have HG := Lib.hid (WM.getI_bad HL.out (by omega) hklt (by rw [HC.out]; simp [WM.bad]; omega))
                go_wp2_with fail
                try rw [Exit.noGoto_ret]
                go_ret3
                exact GetPost.of HG.out rfl rfl rfl
              · have qz : ((c.toNat : Int) == 0) = false := beq_eq_false_iff_ne.2 (by omega)
                have hbd : WM.bad k (l.getD k 0) = false := by rw [HC.out]; simp [WM.bad]; omega
                have HG := Lib.hid (WM.getI_good HL.out (by omega) hklt hbd)
                have HV := Lib.hid (WM.val_last_lt (by omega) hklt (by rw [HC.out]; exact hc) hbd)
                have HO := Lib.hid (or_step (WM.val (l.take k)) c.toNat k (by omega) WM.val_take_lt (by have := HV.out; rw [HC.out] at this; omega))
                have HO2 := Lib.hid (HO.out.trans (by have := HV.out.1; rw [HC.out] at this; rw [this] : _ = ((WM.val (l.take (k + 1)) : Nat) : Int)))
                clear hbd
                go_wp2_with (go_at_call 59; refine (unfold_at _ _ _ HV.out.2 HO2.out).mono ?_; rintro e w' ⟨rfl, rfl⟩)
                try rw [Exit.noGoto_ret]
                go_ret3
                exact GetPost.of HG.out rfl (by go_num) rfl
            · have hbd : WM.bad k (l.getD k 0) = false := by rw [HC.out]; simp [WM.bad]; omega
              have HG := Lib.hid (WM.getI_good HL.out (by omega) hklt hbd)
              have HV := Lib.hid (WM.val_last_lt (by omega) hklt (by rw [HC.out]; exact hc) hbd)
              have HO := Lib.hid (or_step (WM.val (l.take k)) c.toNat k (by omega) WM.val_take_lt (by have := HV.out; rw [HC.out] at this; omega))
              have HO2 := Lib.hid (HO.out.trans (by have := HV.out.1; rw [HC.out] at this; rw [this] : _ = ((WM.val (l.take (k + 1)) : Nat) : Int)))
              clear hbd
              go_wp2_with (go_at_call 59; refine (unfold_at _ _ _ HV.out.2 HO2.out).mono ?_; rintro e w' ⟨rfl, rfl⟩)
              try rw [Exit.noGoto_ret]
              go_ret3
              exact GetPost.of HG.out rfl (by go_num) rfl
        · go_wp2_with fail
          go_round
          case rel =>
            refine ⟨k + 1, _, by omega, by omega, by go_num, rfl, fun j hj => ?_, fun h9 => ?_⟩
            · by_cases hjk : j = k
              · rw [hjk, HC.out]; omega
              · exact HJ.out j (by omega)
            · have e := WM.val_take l k hklt
              have hz := WM.val_take_lt (l := l) (k := k)
              have hv := WM.val_take_lt (l := l) (k := k + 1)
              have hp : 128 ^ (k + 1) ≤ 128 ^ 9 := Nat.pow_le_pow_right (by omega) (by omega)
              rw [HC.out, show c.toNat % 128 = c.toNat - 128 by omega] at e
              have ho := or_step (WM.val (l.take k)) (c.toNat - 128) k (by omega) hz (by omega)
              rw [HZ.out (by omega), e, ← ho, show ((c.toNat - 128 : Nat) : Int) = (c.toNat : Int) - 128 by omega]
          case measure => simp [intOf]; omega
end Go.Proofs.YtkakiepaffhhjaaDoor

/-
  Contracts of the walks over wire.Ints and the reference's. Conditions: at most 10^9 bytes.
-/
namespace Go.Proofs.YtkakiepaffhhjaaDoor
open Go.RowKit

theorem own_keep {w w' : World} {base : Nat} {e : TypeId} {size : Nat} {v : Value} {n : Nat} {xs : List Value} (h : w.ownsRow base e size v n xs) (hb : Below w.heap.size w w') : w'.ownsRow base e size v n xs :=
  h.kept (row := none) ⟨hb.os, hb.tape, hb.output, hb.size, fun k hk _ => hb.block k hk⟩ (Classical.em _)
theorem Holds.some_ {w : World} {A : Option Addr} {l : List UInt8} (h : Holds w A (l.map B8)) (hl : 1 ≤ l.length) : ∃ ad, A = some ad := by
  obtain ⟨ad, e, _⟩ := h 0 (B8 (l.getD 0 0)) (by rw [List.getElem?_map, List.getElem?_eq_getElem (by omega)]; simp [List.getElem?_eq_getElem (show 0 < l.length by omega)])
  exact ⟨ad, e⟩
theorem Holds.cells {w : World} {ad : Addr} {xs : List Value} (h : Holds w (some ad) xs) : ∀ j u, xs[j]? = some u → w.cell? (ad.add j) = some u := fun j u hu => by
  obtain ⟨ad', e, hc⟩ := h j u hu
  cases e
  exact hc
theorem Holds.at_ {w : World} {A : Option Addr} {xs : List Value} (h : Holds w A xs) {k : Nat} (hk : k < xs.length) : ∃ ad, A = some ad ∧ w.cell? (ad.add k) = some xs[k] := h k _ (List.getElem?_eq_getElem hk)
/-- The bytes of a row's first part. -/
def partI (n : Nat) {α : Type} (enc : α → List UInt8) (xs : List α) (k : Nat) : List UInt8 := WM.encI n ++ (xs.take k).flatMap enc
theorem partI_zero (n : Nat) {α : Type} (enc : α → List UInt8) (xs : List α) : partI n enc xs 0 = WM.encI n := by simp [partI]
theorem partI_succ (n : Nat) {α : Type} (enc : α → List UInt8) (xs : List α) (k : Nat) (hk : k < xs.length) : partI n enc xs (k + 1) = partI n enc xs k ++ enc xs[k] := by
  unfold partI; rw [List.take_succ_eq_append_getElem hk, List.flatMap_append, List.flatMap_singleton, List.append_assoc]
theorem partI_all {α : Type} (enc : α → List UInt8) (xs : List α) : partI xs.length enc xs xs.length = WM.encAll enc xs := by unfold partI WM.encAll; rw [List.take_length]
theorem flat_take_le {α : Type} (enc : α → List UInt8) : ∀ (xs : List α) (k : Nat), ((xs.take k).flatMap enc).length ≤ (xs.flatMap enc).length
  | [], k => by simp
  | x :: xs, 0 => by simp
  | x :: xs, k + 1 => by
    have := flat_take_le enc xs k
    simp only [List.take_succ_cons, List.flatMap_cons, List.length_append]; omega
theorem partI_le {α : Type} (enc : α → List UInt8) (xs : List α) (k : Nat) : (partI xs.length enc xs k).length ≤ (WM.encAll enc xs).length := by
  have := flat_take_le enc xs k
  unfold partI WM.encAll; rw [List.length_append, List.length_append]; omega
theorem enc_le {α : Type} (enc : α → List UInt8) : ∀ (xs : List α) (k : Nat) (hk : k < xs.length), (enc xs[k]).length ≤ (xs.flatMap enc).length
  | x :: xs, 0, _ => by simp only [List.flatMap_cons, List.length_append, List.getElem_cons_zero]; omega
  | x :: xs, k + 1, h => by
    have := enc_le enc xs k (by simpa using h)
    simp only [List.flatMap_cons, List.length_append, List.getElem_cons_succ]; omega
/-- What the loop over a list has done after k rounds. -/
def PutRel {α : Type} (enc : α → List UInt8) (xs : List α) (w : World) (b i : Value) (wr : World) : Prop :=
  ∃ k : Nat, k ≤ xs.length ∧ i = .int .i64 k ∧ wr.ownsRow w.heap.size 5 1 b (partI xs.length enc xs k).length ((partI xs.length enc xs k).map B8) ∧ Below w.heap.size w wr
set_option maxRecDepth 100000 in
set_option maxHeartbeats 800000 in
theorem listInts_any (A : Option Addr) (cap : Nat) (xs : List Int) (w : World) (hok : ∀ x ∈ xs, WM.okI x) (hl : (WM.encAll WM.encI xs).length ≤ 1000000000) (hn : xs.length ≤ 1000000000) (hh : Holds w A (xs.map (Value.int .i64))) :
    Calls Tryd.prog 74 #[.slice A xs.length cap, .func (.func 47) #[] #[]] w (PutPost (WM.encAll WM.encI xs) w) := by
  go_enter Tryd.func74, Tryd.ntmps74
  go_wp2_with fail
  refine (int_any (xs.length : Int) _ (by omega) (by omega)).mono ?_
  rintro e w1 ⟨v1, rfl, hown1, hb1⟩
  go_wp2_with fail
  go_loopw [5, 13] (PutRel WM.encI xs w) (fun _ i _ => xs.length - (intOf i).toNat)
  case atStart => exact ⟨0, by omega, rfl, by rw [partI_zero]; exact hown1, hb1⟩
  case round =>
    obtain ⟨k, hk, rfl, hown, hb⟩ := hrel
    have hsz := hb.size
    by_cases hlt : k < xs.length
    · obtain ⟨ad, rfl, hcell⟩ := (hh.keep (Keeps.of hb)).at_ (k := k) (by simpa using hlt)
      rw [List.getElem_map] at hcell
      have hx := hok xs[k] (List.getElem_mem hlt)
      have HP := Lib.hid (partI_succ xs.length WM.encI xs k hlt)
      have hpl := partI_le WM.encI xs k
      generalize xs[k] = x at hcell hx HP
      go_wp2_with fail
      refine (addInt_any w.heap.size _ _ _ x _ hx.1 hx.2 hown (by omega) (by omega)).mono ?_
      rintro e w2 ⟨v2, rfl, hown2, hb2⟩
      clear hown hcell
      go_wp2_with fail
      go_roundw
      case rel => exact ⟨k + 1, by omega, by go_num, by rw [HP.out, List.length_append, List.map_append]; exact hown2, hb.trans hb2⟩
      case measure => simp [intOf]; omega
    · go_wp2_with fail
      go_ret
      have hkn : k = xs.length := by omega
      subst hkn
      rw [partI_all] at hown
      exact ⟨_, rfl, hown, hb⟩
/-- The contract of Ints. -/
theorem ints_any (A : Option Addr) (cap : Nat) (xs : List Int) (w : World) (hok : ∀ x ∈ xs, WM.okI x) (hl : (WM.encAll WM.encI xs).length ≤ 1000000000) (hn : xs.length ≤ 1000000000) (hh : Holds w A (xs.map (Value.int .i64))) :
    Calls Tryd.prog 63 #[.slice A xs.length cap] w (PutPost (WM.encAll WM.encI xs) w) := by
  go_enter Tryd.func63, Tryd.ntmps63
  go_wp2_with fail
  refine (listInts_any A cap xs w hok hl hn hh).mono ?_
  rintro e w1 ⟨v1, rfl, hown1, hb1⟩
  go_wp2_with fail
  go_ret
  exact ⟨_, rfl, hown1, hb1⟩
set_option maxRecDepth 100000 in
set_option maxHeartbeats 800000 in
theorem refInts_any (A : Option Addr) (cap : Nat) (xs : List Int) (w : World) (hok : ∀ x ∈ xs, WM.okI x) (hl : (WM.encAll WM.encI xs).length ≤ 1000000000) (hn : xs.length ≤ 1000000000) (hh : Holds w A (xs.map (Value.int .i64))) :
    Calls Tryd.prog 53 #[.slice A xs.length cap] w (PutPost (WM.encAll WM.encI xs) w) := by
  obtain ⟨i0, hi, hz0, hz1, hz2⟩ := info_parts Tryd.info8
  go_enter Tryd.func53, Tryd.ntmps53
  go_wp2_with fail
  refine (refInt_any (xs.length : Int) _ (by omega) (by omega)).mono ?_
  rintro e w1 ⟨v1, rfl, hown1, hb1⟩
  go_wp2_with fail
  go_loopw [3, 4] (PutRel WM.encI xs w) (fun _ i _ => xs.length - (intOf i).toNat)
  case atStart => exact ⟨0, by omega, rfl, by rw [partI_zero]; exact hown1, hb1⟩
  case round =>
    obtain ⟨k, hk, rfl, hown, hb⟩ := hrel
    have hsz := hb.size
    by_cases hlt : k < xs.length
    · obtain ⟨ad, rfl, hcell⟩ := (hh.keep (Keeps.of hb)).at_ (k := k) (by simpa using hlt)
      rw [List.getElem_map] at hcell
      have hx := hok xs[k] (List.getElem_mem hlt)
      have HP := Lib.hid (partI_succ xs.length WM.encI xs k hlt)
      have hpl := partI_le WM.encI xs k
      generalize xs[k] = x at hcell hx HP
      have hel := WM.encI_le hx
      have hep := WM.encI_pos x
      go_wp2_with fail
      refine (refInt_any x _ hx.1 hx.2).mono ?_
      rintro e w2 ⟨v2, rfl, hown2, hb2⟩
      have hown3 := own_keep hown hb2
      have hb3 := hb.trans (hb2.mono hsz)
      have hlt3 := hown3.lt
      have hsz3 := hb3.size
      obtain ⟨A2, c2, rfl, hc2, H2⟩ := holds_own hown2
      obtain ⟨ad2, rfl⟩ := H2.some_ hep
      clear hown hown2 hcell
      go_wp2_with (at_builtin; refine wpList_append_own _ rfl _ _ 43 rfl w.heap.size 5 i0 (.int .u8 0) 1 1 Tryd.underlying43 hi hz0 hz1 hz2 rfl (by decide) _ _ _ rfl hown3 ad2 (WM.encI x).length c2 ((WM.encI x).map B8) rfl ?n1 H2.cells (B8_one' _) ?c3 ?c4 ?c5 ?_)
      case n1 => rw [List.length_map, Nat.mul_one]
      case c3 => unfold maxLen; omega
      case c4 => omega
      case c5 => omega
      intro v4 w4 hown4 hgrow _
      have hb4 := hb3.grown hgrow hsz3 (fun k hk => (hlt3 k hk).1)
      clear hown3 hgrow
      go_wp2_with fail
      go_roundw
      case rel => exact ⟨k + 1, by omega, by go_num, by rw [HP.out, List.length_append, List.map_append]; exact hown4, hb4⟩
      case measure => simp [intOf]; omega
    · go_wp2_with fail
      go_ret
      have hkn : k = xs.length := by omega
      subst hkn
      rw [partI_all] at hown
      exact ⟨_, rfl, hown, hb⟩
end Go.Proofs.YtkakiepaffhhjaaDoor

/-
  Contracts of the walks over wire.Digests and the reference's. Conditions: at most 10^9 bytes.
-/
namespace Go.Proofs.YtkakiepaffhhjaaDoor
open Go.RowKit

def digV (d : List UInt8) : Value := .agg (d.map B8).toArray
theorem block_cells {w : World} {cs : Array Value} {t : TypeId} {l : List Value} (h : cs = l.toArray) {j : Nat} {u : Value} (hu : l[j]? = some u) : (w.alloc (.cells cs t)).cell? ((⟨w.heap.size, 0, none⟩ : Addr).add j) = some u := by
  subst h
  have hadd : (⟨w.heap.size, 0, none⟩ : Addr).add j = ⟨w.heap.size, j, none⟩ := by unfold Addr.add; split <;> simp_all
  rw [hadd, cell_of_row _ _ _ _ _ _ (heap_alloc_new w _)]
  simpa using hu
set_option maxRecDepth 100000 in
set_option maxHeartbeats 800000 in
theorem addDigest_cells (base : Nat) (v : Value) (m : Nat) (xs : List Value) (d : List UInt8) (cs : Array Value) (hcs : Hid (cs = (d.map B8).toArray)) (w : World) (hd : d.length = 16)
    (hown : w.ownsRow base 5 1 v m xs) (hb : base ≤ w.heap.size) (hm : m ≤ 1000000000) :
    Calls Tryd.prog 82 #[v, .agg cs] w fun e w' =>
      ∃ v', e = .returned v' ∧ w'.ownsRow base 5 1 v' (m + d.length) (xs ++ d.map B8) ∧ Below base w w' := by
  obtain ⟨i0, hi, hz0, hz1, hz2⟩ := info_parts Tryd.info8
  have hlt := hown.lt
  have HD := Lib.hid hd
  clear hd
  go_enter Tryd.func82, Tryd.ntmps82
  go_wp2_with (at_builtin; refine wpList_append_own _ rfl _ _ 43 rfl base 5 i0 (.int .u8 0) 1 1 Tryd.underlying43 hi hz0 hz1 hz2 rfl (by decide) _ _ _ rfl (hown.alloc _) ⟨w.heap.size, 0, none⟩ 16 16 (d.map B8) rfl ?c0 ?c1 ?c2 ?c3 ?c4 ?c5 ?_)
  case c0 => rw [List.length_map, HD.out]
  case c1 => exact fun j u hu => block_cells hcs.out hu
  case c2 => exact B8_one' d
  case c3 => unfold maxLen; omega
  case c4 => omega
  case c5 => simp; omega
  intro v' w1 hown' hgrow _
  clear hown
  go_wp2
  go_ret
  exact ⟨_, rfl, by rw [HD.out]; exact hown', ((Below.refl _ _).alloc hb _).grown hgrow (by simp; omega) (fun k hk => (hlt k hk).1)⟩
theorem addDigest_any (base : Nat) (v : Value) (m : Nat) (xs : List Value) (d : List UInt8) (w : World) (hd : d.length = 16)
    (hown : w.ownsRow base 5 1 v m xs) (hb : base ≤ w.heap.size) (hm : m ≤ 1000000000) :
    Calls Tryd.prog 82 #[v, digV d] w fun e w' =>
      ∃ v', e = .returned v' ∧ w'.ownsRow base 5 1 v' (m + d.length) (xs ++ d.map B8) ∧ Below base w w' :=
  addDigest_cells base v m xs d _ (Lib.hid rfl) w hd hown hb hm
/-- The cells of a list of digests. -/
def digCells (xs : List (List UInt8)) : List Value := xs.flatMap fun d => d.map B8
theorem digCells_get : ∀ (xs : List (List UInt8)) (_h : ∀ d ∈ xs, d.length = 16) (k : Nat) (hk : k < xs.length) (j : Nat) (u : Value), (xs[k].map B8)[j]? = some u → (digCells xs)[k * 16 + j]? = some u
  | d :: xs, h, 0, _, j, u, hu => by
    simp only [digCells, List.flatMap_cons, Nat.zero_mul, Nat.zero_add]
    rw [List.getElem?_append_left]
    · exact hu
    · rcases Nat.lt_or_ge j (d.map B8).length with hl | hl
      · exact hl
      · rw [List.getElem_cons_zero, List.getElem?_eq_none hl] at hu; cases hu
  | d :: xs, h, k + 1, hk, j, u, hu => by
    have ih := digCells_get xs (fun x hx => h x (by simp [hx])) k (by simpa using hk) j u (by simpa using hu)
    have hd : (d.map B8).length = 16 := by rw [List.length_map]; exact h d (by simp)
    simp only [digCells, List.flatMap_cons]
    rw [List.getElem?_append_right (by omega), show (k + 1) * 16 + j - (d.map B8).length = k * 16 + j by omega]
    exact ih
theorem Tryd.info57 : (Tryd.prog.info? 23).map (fun i => (i.zero, i.size, i.bytes)) = some (some (.agg ((List.replicate 16 (Value.int .u8 0)).toArray)), 16, 16) := by kernel_rfl
theorem Tryd.arr57 : (match Tryd.prog.underlying 23 with | some (.array _ _) => true | _ => false) = true := by kernel_rfl
theorem run_load57 (w : World) (a0 : Addr) (l : List Value) (hl : l.length = 16) (hc : ∀ j u, l[j]? = some u → w.cell? (a0.add j) = some u) :
    (loadVar 23 a0).run Tryd.prog w = .ok (.agg l.toArray) w := by
  obtain ⟨i0, hi, _, hz1, _⟩ := info_parts Tryd.info57
  have hcells : (loadCells a0 16).run Tryd.prog w = .ok l.toArray w := by
    have := run_loadCells_list (P := Tryd.prog) w a0 l (fun j v hv => hc j v hv)
    rwa [hl] at this
  have harr := Tryd.arr57
  cases hu : Tryd.prog.underlying 23 with
  | none => rw [hu] at harr; cases harr
  | some dsc =>
    rw [hu] at harr
    have hagg : (isAgg 23).run Tryd.prog w = .ok true w := by
      unfold isAgg
      rw [Sem.run_bind, run_underlying hu w]
      cases dsc <;> simp_all
    simp [loadVar, Sem.run_bind, hagg, sizeOf, typeInfo, hi, hz1, hcells]
theorem wpList_load57 {ops : Array Oper} {rest : List Oper} {o : Oper} {a : Act} {w : World} {Q : Exit → Act → World → Prop} (hgd : o.guard = none) (x : Operand) (ho : o.op = .load 23 x)
    (a0 : Addr) (hx : a.eval x = .pointer (some a0)) (l : List Value) (hl : l.length = 16) (hc : ∀ j u, l[j]? = some u → w.cell? (a0.add j) = some u)
    (h : wpList Tryd.prog ops Q rest (a.put o.dst (.agg l.toArray)) w) : wpList Tryd.prog ops Q (o :: rest) a w := by
  refine wpList_plain hgd fun K hK => ?_
  have hrun := run_load57 w a0 l hl hc
  unfold Oper.wp execOp
  simp only [ho, hx, Instr.loadAt, Instr.sureAddr, Sem.run_bind, Sem.run_pure, Result.andThen_ok, hrun]
  exact hK _ _ h
theorem wpList_load57g {ops : Array Oper} {rest : List Oper} {o : Oper} {a : Act} {w : World} {Q : Exit → Act → World → Prop} (hw : Region.wanted o (yielded ops a.tmps) = true) (x : Operand) (ho : o.op = .load 23 x)
    (a0 : Addr) (hx : a.eval x = .pointer (some a0)) (l : List Value) (hl : l.length = 16) (hc : ∀ j u, l[j]? = some u → w.cell? (a0.add j) = some u)
    (h : wpList Tryd.prog ops Q rest (a.put o.dst (.agg l.toArray)) w) : wpList Tryd.prog ops Q (o :: rest) a w := by
  refine BigFrame.wpList_want hw fun K hK => ?_
  have hrun := run_load57 w a0 l hl hc
  unfold Oper.wp execOp
  simp only [ho, hx, Instr.loadAt, Instr.sureAddr, Sem.run_bind, Sem.run_pure, Result.andThen_ok, hrun]
  exact hK _ _ h
theorem Tryd.size57 : (Tryd.prog.info? 23).map (·.size) = some 16 := by kernel_rfl
theorem wpList_new57 {ops : Array Oper} {rest : List Oper} {o : Oper} {a : Act} {W : World} {Q : Exit → Act → World → Prop} (hgd : o.guard = none) (x y : Operand) (ho : o.op = .store 23 x y)
    (old cs : Array Value) (hx : a.eval x = .pointer (some ⟨W.heap.size, 0, none⟩)) (hy : a.eval y = .agg cs) (hold : old.size = 16) (hcs : cs.size = 16) (h1 : cs.all (·.oneCell') = true)
    (h : wpList Tryd.prog ops Q rest (a.put o.dst undef) (W.alloc (.cells cs 23))) : wpList Tryd.prog ops Q (o :: rest) a (W.alloc (.cells old 23)) := by
  refine wpList_plain hgd fun K hK => ?_
  have hrun := run_storeVar_new (P := Tryd.prog) W 23 old cs (by rw [Tryd.size57, hcs]) (by rw [hold, hcs]) h1
  unfold Oper.wp execOp
  simp only [ho, hx, hy, Instr.storeAt, Instr.sureAddr, Sem.run_bind, Sem.run_pure, Result.andThen_ok, hrun]
  exact hK _ _ h
theorem B8_all (d : List UInt8) : (d.map B8).toArray.all (·.oneCell') = true := all_oneCell_toArray (B8_one' d)
set_option maxRecDepth 100000 in
set_option maxHeartbeats 800000 in
theorem listDigests_any (A : Option Addr) (cap : Nat) (xs : List (List UInt8)) (w : World) (hok : ∀ x ∈ xs, WM.okD x) (hl : (WM.encAll (fun d => d) xs).length ≤ 1000000000) (hn : xs.length ≤ 1000000000) (hh : Holds w A (digCells xs)) :
    Calls Tryd.prog 81 #[.slice A xs.length cap, .func (.func 82) #[] #[]] w (PutPost (WM.encAll (fun d => d) xs) w) := by
  go_enter Tryd.func81, Tryd.ntmps81
  go_wp2_with fail
  refine (int_any (xs.length : Int) _ (by omega) (by omega)).mono ?_
  rintro e w1 ⟨v1, rfl, hown1, hb1⟩
  go_wp2_with fail
  go_loopw [5, 13] (PutRel (fun d => d) xs w) (fun _ i _ => xs.length - (intOf i).toNat)
  case atStart => exact ⟨0, by omega, rfl, by rw [partI_zero]; exact hown1, hb1⟩
  case round =>
    obtain ⟨k, hk, rfl, hown, hb⟩ := hrel
    have hsz := hb.size
    by_cases hlt : k < xs.length
    · have hcells := fun j u (hu : (xs[k].map B8)[j]? = some u) => (hh.keep (Keeps.of hb)) _ _ (digCells_get xs hok k hlt j u hu)
      have hd := hok xs[k] (List.getElem_mem hlt)
      obtain ⟨ad, rfl, _⟩ := hcells 0 (B8 (xs[k].getD 0 0)) (by unfold WM.okD at hd; simp [hd])
      have hc2 : ∀ j u, (xs[k].map B8)[j]? = some u → wr.cell? ((ad.add (k * 16)).add j) = some u := fun j u hu => by
        obtain ⟨ad', e, hc⟩ := hcells j u hu
        cases e
        rw [add_add]; exact hc
      have HP := Lib.hid (partI_succ xs.length (fun d => d) xs k hlt)
      have hpl := partI_le (fun d => d) xs k
      generalize xs[k] = d at hd hc2 HP
      have HC := Lib.hid hc2
      have hdl : (d.map B8).length = 16 := by rw [List.length_map]; exact hd
      have HD := Lib.hid hdl
      have HD2 := Lib.hid hd
      clear hc2 hcells hd hdl
      go_wp2_with (first | (with_reducible refine wpList_new57 (o := ⟨none, .store 23 (.tmp 7) (.tmp 16), _, _, _, _⟩) ?g2 (.tmp 7) (.tmp 16) ?o2 _ (d.map B8).toArray ?x2 ?y2 ?l2 ?l3 (B8_all d) ?_) | with_reducible refine wpList_load57 (o := ⟨some 16, _, _, _, _, _⟩) ?g1 (.tmp 15) ?o1 (ad.add (k * 16)) ?x1 (d.map B8) ?l1 ?c1 ?_ | with_reducible refine wpList_load57 (o := ⟨some 19, _, _, _, _, _⟩) ?g3 (.tmp 7) ?o3 ⟨wr.heap.size, 0, none⟩ ?x3 (d.map B8) ?l4 ?c3 ?_)
      case g1 => rfl
      case o1 => rfl
      case x1 => rfl
      case g2 => rfl
      case o2 => rfl
      case x2 => rfl
      case y2 => rfl
      case l2 => rfl
      case l3 => simpa using HD.out
      case g3 => rfl
      case o3 => rfl
      case x3 => rfl
      case l4 => exact HD.out
      case c3 => exact fun j u hu => block_cells rfl hu
      case l1 => exact HD.out
      case c1 => exact HC.out
      have hown2 := hown.alloc (.cells (d.map B8).toArray 23)
      clear hown
      refine (addDigest_any w.heap.size _ _ _ d _ HD2.out hown2 (by simp; omega) (by omega)).mono ?_
      rintro e w2 ⟨v2, rfl, hown3, hb2⟩
      clear hown2
      go_wp2_with fail
      go_roundw
      case rel => exact ⟨k + 1, by omega, by go_num, by rw [HP.out, List.length_append, List.map_append]; exact hown3, (hb.alloc (by omega) _).trans hb2⟩
      case measure => simp [intOf]; omega
    · go_wp2_with fail
      go_ret
      have hkn : k = xs.length := by omega
      subst hkn
      rw [partI_all] at hown
      exact ⟨_, rfl, hown, hb⟩
/-- The contract of Digests. -/
theorem digests_any (A : Option Addr) (cap : Nat) (xs : List (List UInt8)) (w : World) (hok : ∀ x ∈ xs, WM.okD x) (hl : (WM.encAll (fun d => d) xs).length ≤ 1000000000) (hn : xs.length ≤ 1000000000) (hh : Holds w A (digCells xs)) :
    Calls Tryd.prog 73 #[.slice A xs.length cap] w (PutPost (WM.encAll (fun d => d) xs) w) := by
  go_enter Tryd.func73, Tryd.ntmps73
  go_wp2_with fail
  refine (listDigests_any A cap xs w hok hl hn hh).mono ?_
  rintro e w1 ⟨v1, rfl, hown1, hb1⟩
  go_wp2_with fail
  go_ret
  exact ⟨_, rfl, hown1, hb1⟩
theorem dig_holds {w : World} {A : Option Addr} {xs : List (List UInt8)} (hh : Holds w A (digCells xs)) (hok : ∀ d ∈ xs, d.length = 16) {k : Nat} (hk : k < xs.length) : ∃ ad, A = some ad ∧ ∀ j u, (xs[k].map B8)[j]? = some u → w.cell? ((ad.add (k * 16)).add j) = some u := by
  have hcells := fun j u (hu : (xs[k].map B8)[j]? = some u) => hh _ _ (digCells_get xs hok k hk j u hu)
  have hd := hok xs[k] (List.getElem_mem hk)
  obtain ⟨ad, rfl, _⟩ := hcells 0 (B8 (xs[k].getD 0 0)) (by simp [hd])
  refine ⟨ad, rfl, fun j u hu => ?_⟩
  obtain ⟨ad', e, hc⟩ := hcells j u hu
  cases e
  rw [add_add]; exact hc
set_option maxRecDepth 100000 in
set_option maxHeartbeats 800000 in
theorem refDigests_any (A : Option Addr) (cap : Nat) (xs : List (List UInt8)) (w : World) (hok : ∀ x ∈ xs, WM.okD x) (hl : (WM.encAll (fun d => d) xs).length ≤ 1000000000) (hn : xs.length ≤ 1000000000) (hh : Holds w A (digCells xs)) :
    Calls Tryd.prog 61 #[.slice A xs.length cap] w (PutPost (WM.encAll (fun d => d) xs) w) := by
  obtain ⟨i0, hi, hz0, hz1, hz2⟩ := info_parts Tryd.info8
  go_enter Tryd.func61, Tryd.ntmps61
  go_wp2_with fail
  refine (refInt_any (xs.length : Int) _ (by omega) (by omega)).mono ?_
  rintro e w1 ⟨v1, rfl, hown1, hb1⟩
  go_wp2_with fail
  go_loopw [3, 4] (PutRel (fun d => d) xs w) (fun _ i _ => xs.length - (intOf i).toNat)
  case atStart => exact ⟨0, by omega, rfl, by rw [partI_zero]; exact hown1, hb1⟩
  case round =>
    obtain ⟨k, hk, rfl, hown, hb⟩ := hrel
    have hsz := hb.size
    by_cases hlt : k < xs.length
    · have hpl := partI_le (fun d => d) xs k
      have HP := Lib.hid (partI_succ xs.length (fun d => d) xs k hlt)
      obtain ⟨ad, rfl, hc⟩ := dig_holds (hh.keep (Keeps.of hb)) hok hlt
      have hd := hok xs[k] (List.getElem_mem hlt)
      generalize xs[k] = d at hc hd HP
      have HC := Lib.hid hc
      have HD := Lib.hid hd
      have hlt3 := hown.lt
      clear hc hd
      go_wp2_with (at_builtin; refine wpList_append_own _ rfl _ _ 43 rfl w.heap.size 5 i0 (.int .u8 0) 1 1 Tryd.underlying43 hi hz0 hz1 hz2 rfl (by decide) _ _ _ rfl hown (ad.add (k * 16)) 16 16 (d.map B8) rfl ?n1 HC.out (B8_one' _) ?c3 ?c4 ?c5 ?_)
      case n1 => rw [List.length_map]; exact HD.out
      case c3 => unfold maxLen; omega
      case c4 => omega
      case c5 => omega
      intro v4 w4 hown4 hgrow _
      have hb4 := hb.grown hgrow hsz (fun k hk => (hlt3 k hk).1)
      clear hown hgrow
      go_wp2_with fail
      go_roundw
      case rel => exact ⟨k + 1, by omega, by go_num, by rw [HP.out, List.length_append, List.map_append, HD.out]; exact hown4, hb4⟩
      case measure => simp [intOf]; omega
    · go_wp2_with fail
      go_ret
      have hkn : k = xs.length := by omega
      subst hkn
      rw [partI_all] at hown
      exact ⟨_, rfl, hown, hb⟩
end Go.Proofs.YtkakiepaffhhjaaDoor

/-
  The walk over the statement on Of. Conditions: the tables read as the document has them.
-/
namespace Go.Proofs.YtkakiepaffhhjaaDoor
open Go.RowKit

theorem eqIn_dig (l : List UInt8) (hl : l.length = 16) : ∀ w : World, (Op.equalIn 10000 23 (.agg (l.map B8).toArray) (.agg (l.map B8).toArray)).run Tryd.prog w = .ok true w := fun w => by
  obtain ⟨i0, hi, _, _, _⟩ := info_parts Tryd.info8
  rw [run_equalIn_array (P := Tryd.prog) (w := w) 9999 _ _ Tryd.underlying23 hi, Tryd.cells5, eqItems_dec w l l rfl _ (fun i h => by have := List.mem_range.1 h; omega), ← hl, all_range_eq l l rfl]
  simp
theorem i64_and255 (n : Int) : bits .and .i64 n 255 = n % 256 := by
  have h255 : (BitVec.ofInt 64 255).toNat = 2 ^ 8 - 1 := by decide
  have key : (BitVec.ofInt 64 n &&& BitVec.ofInt 64 255).toNat = (n % ((2 ^ 64 : Nat) : Int)).toNat % 2 ^ 8 := by
    rw [BitVec.toNat_and, BitVec.toNat_ofInt, h255, Nat.and_two_pow_sub_one_eq_mod]
  show IntKind.i64.wrap ((BitVec.ofInt 64 n &&& BitVec.ofInt 64 255).toNat : Nat) = n % 256
  rw [key, IntKind.wrap_i64]
  omega
theorem and255 (t : Int) : tagB (bits .and .i64 t 255) = tagB t := by
  rw [i64_and255]
  unfold tagB
  rw [Int.emod_emod_of_dvd t (Int.dvd_refl 256)]
theorem fewB_len (xs : List ByteArray) (h : fewB xs = true) : xs.length ≤ 12 ∧ ∀ s ∈ xs, s.size ≤ 400 := by
  unfold fewB at h
  rw [Bool.and_eq_true, decide_eq_true_eq, List.all_eq_true] at h
  exact ⟨h.1, fun s hs => by simpa using h.2 s hs⟩
theorem ofIn_small (t : Int) (xs : List ByteArray) (h : fewB xs = true) : (ofIn t xs).length ≤ 10000 := by
  obtain ⟨h1, h2⟩ := fewB_len xs h
  have key : ∀ (ys : List ByteArray), (∀ s ∈ ys, s.size ≤ 400) → ((strsOf ys).flatMap WM.encB).length ≤ 410 * ys.length := by
    intro ys
    induction ys with
    | nil => intro _; simp [strsOf]
    | cons y r ih =>
      intro hy
      have h3 := ih (fun s hs => hy s (by simp [hs]))
      have h4 := hy y (by simp)
      have h5 : (WM.encB y.data.toList).length ≤ 410 := by
        show (WM.encI (y.data.toList.length : Int) ++ y.data.toList).length ≤ 410
        have : (WM.encI (y.data.toList.length : Int)).length ≤ 10 := WM.encI_le ⟨by omega, by rw [bytes_size]; omega⟩
        rw [List.length_append, bytes_size] at *
        omega
      show ((WM.encB y.data.toList) ++ ((strsOf r).flatMap WM.encB)).length ≤ _
      rw [List.length_append, List.length_cons]
      omega
  have := key xs h2
  unfold ofIn
  rw [List.length_cons]
  omega
theorem of_to (A : Option Addr) (cap n : Nat) (t : Int) (xs : List ByteArray) (D : List UInt8) (w : World) (hD : Unit → ofD t xs = D) (hn : n = xs.length) (hn1 : n ≤ 1000000) (hl : (ofIn t xs).length ≤ 100000000) (HY : Lay w) (hh : Holds w A (xs.map Value.string)) :
    Calls Tryd.prog 37 #[.int .i64 t, .slice A n cap] w fun e w' => e = .returned (.agg (D.map B8).toArray) ∧ Below w.heap.size w w' := by
  rw [← hD ()]; exact of_any A cap n t xs w hn hn1 (by omega) HY hh
theorem ofD_and (t u : Int) (xs : List ByteArray) (h : tagB u = tagB t) : ofD u xs = ofD t xs := by unfold ofD ofIn; rw [h]





























































































































































end Go.Proofs.YtkakiepaffhhjaaDoor

/-
  Steps of a region that draws its order: a store of a part of a variable, and the meeting of several orders. Conditions: none.
-/
namespace Go.Proofs.YtkakiepaffhhjaaDoor
open Go.RowKit

section
variable {P : Program}
/-- A store into a part of a variable, as one step. -/
theorem wp_put {o : Oper} {a : Act} {w : World} {K : Act → World → Prop} {Q : Exit → Act → World → Prop} (ty : TypeId) (x y : Operand) (ho : o.op = .store ty x y)
    (g k : Nat) (hx : a.eval x = .pointer (some ⟨g, k, none⟩)) (v : Value) (hy : a.eval y = v) {t : TypeId} {l : List Value} (hb : Blk w g t l) (cs : List Value) (hv : v.cells = cs.toArray)
    (hi : (P.info? ty).map (·.size) = some cs.length) (hl : k + cs.length ≤ l.length) (h1 : ∀ u ∈ cs, u.oneCell' = true)
    (h : ∀ w', Upd g w w' → Blk w' g t (splice l k cs) → K (a.put o.dst undef) w') : Oper.wp P o a w K Q := by
  unfold Oper.wp execOp
  simp only [ho, hx, hy, Instr.storeAt, Instr.sureAddr, Sem.run_bind, Sem.run_pure, Result.andThen_ok, run_put w g k t ty l v cs hv hb hi hl h1]
  exact h _ (upd_setRow w g _) (blk_setRow hb _)
end
/-- What follows is proved once, for all that an order may leave. -/
theorem rest1 {G : Prop} {α : Type} {R : α → Prop} (h1 : (∀ x, R x) → G) (h2 : ∀ x, R x) : G := h1 h2
theorem rest2 {G : Prop} {α β : Type} {R : α → β → Prop} (h1 : (∀ x y, R x y) → G) (h2 : ∀ x y, R x y) : G := h1 h2
theorem rest3 {G : Prop} {α β γ : Type} {R : α → β → γ → Prop} (h1 : (∀ x y z, R x y z) → G) (h2 : ∀ x y z, R x y z) : G := h1 h2
end Go.Proofs.YtkakiepaffhhjaaDoor

/-
  Contracts of the walks over sign.ints, sign.text, sign.leaf and sign.join. Conditions: integers of 64 bits; the tables read as the document has them.
-/
namespace Go.Proofs.YtkakiepaffhhjaaDoor
open Go.RowKit

theorem flat_le (xs : List Int) (hok : ∀ x ∈ xs, WM.okI x) : (xs.flatMap WM.encI).length ≤ 10 * xs.length := by
  induction xs with
  | nil => simp
  | cons x r ih =>
    have h1 := WM.encI_le (hok x (by simp))
    have h2 := ih (fun y hy => hok y (by simp [hy]))
    rw [List.flatMap_cons, List.length_append, List.length_cons]
    omega
theorem ints_len (xs : List Int) (hok : ∀ x ∈ xs, WM.okI x) (hn : xs.length ≤ 10) : (SG.ints xs).length ≤ 110 := by
  have h1 := flat_le xs hok
  have h2 : (WM.encI (xs.length : Int)).length ≤ 10 := WM.encI_le ⟨by omega, by omega⟩
  show (WM.encI (xs.length : Int) ++ xs.flatMap WM.encI).length ≤ 110
  rw [List.length_append]; omega
set_option maxRecDepth 100000 in
theorem sints_any (A : Option Addr) (cap n : Nat) (xs : List Int) (R : List UInt8) (w : World) (hR : Unit → SG.ints xs = R) (hn : n = xs.length) (hok : ∀ x ∈ xs, WM.okI x) (h10 : xs.length ≤ 10) (hh : Holds w A (xs.map (Value.int .i64))) :
    Calls Tryd.prog 51 #[.slice A n cap] w fun e w' => e = .returned (.string ⟨R.toArray⟩) ∧ Below w.heap.size w w' := by
  have hRl : R.length ≤ 110 := by rw [← hR ()]; exact ints_len xs hok h10
  have hin := ints_any A cap xs w hok (by have := ints_len xs hok h10; show (SG.ints xs).length ≤ _; omega) (by omega) hh
  rw [show WM.encAll WM.encI xs = R from hR (), ← hn] at hin
  have h0 : 0 < R.length := by
    rw [← hR ()]
    show 0 < (WM.encI (xs.length : Int) ++ xs.flatMap WM.encI).length
    have := WM.encI_pos (xs.length : Int)
    rw [List.length_append]; omega
  clear hR hn hok hh
  go_enter Tryd.func51, Tryd.ntmps51
  go_wp2_with fail
  (with_reducible refine hin.mono ?_)
  rintro e w1 ⟨v1, rfl, hown, hb⟩
  obtain ⟨g, c, rfl, hcs⟩ := own_some hown h0
  have hcv := run_conv_later w1 (some ⟨g, 0, none⟩) c R.length R rfl (fun j u hu => ⟨_, rfl, hcs j u hu⟩) w1 (Below.refl _ _)
  clear hown hcs hin
  go_wp2
  go_ret
  exact ⟨rfl, hb⟩
theorem ints2_new (a b : Int) (R : List UInt8) (w : World) (g : Nat) (hg : g = w.heap.size) (hR : Unit → SG.ints [a, b] = R) (ha : WM.okI a) (hb : WM.okI b) :
    Calls Tryd.prog 51 #[.slice (some ⟨g, 0, none⟩) 2 2] (w.alloc (.cells #[.int .i64 a, .int .i64 b] 3)) fun e w' => e = .returned (.string ⟨R.toArray⟩) ∧ Below w.heap.size w w' := by
  subst hg
  have hb1 := below_new w (.cells #[.int .i64 a, .int .i64 b] 3)
  refine (sints_any _ 2 2 [a, b] R _ hR rfl (fun x hx => by simp at hx; rcases hx with rfl | rfl <;> assumption) (by simp) (holds_alloc w [.int .i64 a, .int .i64 b] 3 (0, 0))).mono ?_
  rintro e w' ⟨rfl, hb2⟩
  exact ⟨rfl, below_join hb1 hb2⟩
theorem ints3_new (a b c : Int) (R : List UInt8) (w : World) (g : Nat) (hg : g = w.heap.size) (hR : Unit → SG.ints [a, b, c] = R) (ha : WM.okI a) (hb : WM.okI b) (hc : WM.okI c) :
    Calls Tryd.prog 51 #[.slice (some ⟨g, 0, none⟩) 3 3] (w.alloc (.cells #[.int .i64 a, .int .i64 b, .int .i64 c] 3)) fun e w' => e = .returned (.string ⟨R.toArray⟩) ∧ Below w.heap.size w w' := by
  subst hg
  have hb1 := below_new w (.cells #[.int .i64 a, .int .i64 b, .int .i64 c] 3)
  refine (sints_any _ 3 3 [a, b, c] R _ hR rfl (fun x hx => by simp at hx; rcases hx with rfl | rfl | rfl <;> assumption) (by simp) (holds_alloc w [.int .i64 a, .int .i64 b, .int .i64 c] 3 (0, 0))).mono ?_
  rintro e w' ⟨rfl, hb2⟩
  exact ⟨rfl, below_join hb1 hb2⟩
set_option maxRecDepth 100000 in
theorem stext_any (l : List UInt8) (w : World) (hl : l.length = 16) :
    Calls Tryd.prog 38 #[.agg (l.map B8).toArray] w fun e w' => e = .returned (.string ⟨l.toArray⟩) ∧ Below w.heap.size w w' := by
  have HL := Lib.hid hl
  clear hl
  go_enter Tryd.func38, Tryd.ntmps38
  go_wp2_with (with_reducible refine wpList_box (o := ⟨some 1, .box 23 (.tmp 0), _, _, _, _⟩) ?g1 23 (.tmp 0) ?o1 (.agg (l.map B8).toArray) (l.map B8) ?x1 ?c1 ?_)
  try (case g1 => rfl)
  try (case o1 => rfl)
  try (case x1 => rfl)
  try (case c1 => rfl)
  intro gb w1 hgb hs1 hb1 hB1
  have hb : Below w.heap.size w w1 := hb1.mono (Nat.le_of_eq hgb.out.symm)
  have hcv := run_conv_later w1 (some ⟨gb, 0, none⟩) 16 16 l HL.out.symm (blk_holds hB1) w1 (Below.refl _ _)
  clear hgb hs1 hb1
  go_wp2_with (with_reducible refine wpList_cutA (o := ⟨some 3, .slice 23 (.tmp 1) none none none, _, _, _, _⟩) ?g2 23 (.tmp 1) ?o2 gb 0 ?x2 16 5 ?u2 ?i2 ?m2 ?_)
  try (case x2 => rfl)
  try (case g2 => rfl)
  try (case o2 => rfl)
  try (case u2 => exact Tryd.underlying23)
  try (case i2 => exact Tryd.size5)
  try (case m2 => decide)
  go_ret
  exact ⟨rfl, hb⟩
theorem of_new (t : Int) (vs : List ByteArray) (D : List UInt8) (w : World) (hD : Unit → ofD t vs = D) (hl : (ofIn t vs).length ≤ 100000000) (hn : vs.length ≤ 10) (HY : Lay w) :
    Calls Tryd.prog 37 #[.int .i64 t, .slice (some ⟨w.heap.size, 0, none⟩) vs.length vs.length] (w.alloc (.cells (vs.map Value.string).toArray 9)) fun e w' => e = .returned (.agg (D.map B8).toArray) ∧ Below w.heap.size w w' := by
  have hb1 := below_new w (.cells (vs.map Value.string).toArray 9)
  refine (of_to _ vs.length vs.length t vs D _ hD rfl (by omega) hl (HY.next hb1) (holds_alloc w (vs.map Value.string) 9 (0, 0))).mono ?_
  rintro e w' ⟨rfl, hb2⟩
  exact ⟨rfl, below_join hb1 hb2⟩
/-- A text of known bytes. -/
def bs (l : List UInt8) : ByteArray := ⟨l.toArray⟩
theorem strs_bs (ps : List (List UInt8)) : strsOf (ps.map bs) = ps := by
  unfold strsOf bs
  rw [List.map_map]
  conv => rhs; rw [← List.map_id ps]
  apply List.map_congr_left
  intro l _
  simp
theorem enc_len (l : List UInt8) (h : l.length ≤ 1000000) : (WM.encB l).length ≤ 10 + l.length := by
  have : (WM.encI (l.length : Int)).length ≤ 10 := WM.encI_le ⟨by omega, by omega⟩
  show (WM.encI (l.length : Int) ++ l).length ≤ _
  rw [List.length_append]; omega
theorem parts_len (t : Int) : ∀ (ps : List (List UInt8)), (∀ l ∈ ps, l.length ≤ 1000000) → (ofIn t (ps.map bs)).length ≤ 1 + 1000010 * ps.length := by
  intro ps h
  unfold ofIn
  rw [strs_bs, List.length_cons]
  have : (ps.flatMap WM.encB).length ≤ 1000010 * ps.length := by
    induction ps with
    | nil => simp
    | cons x r ih =>
      have h1 := enc_len x (h x (by simp))
      have h2 := h x (by simp)
      have h3 := ih (fun y hy => h y (by simp [hy]))
      rw [List.flatMap_cons, List.length_append, List.length_cons]
      omega
  omega
theorem of_parts (t : Nat) (ps : List (List UInt8)) (D : List UInt8) (w : World) (ht : t < 256) (hD : Unit → SG.hof t ps = D) (hl : ∀ l ∈ ps, l.length ≤ 1000000) (hn : ps.length ≤ 10) (HY : Lay w) :
    Calls Tryd.prog 37 #[.int .i64 t, .slice (some ⟨w.heap.size, 0, none⟩) ps.length ps.length] (w.alloc (.cells (ps.map fun l => Value.string ⟨l.toArray⟩).toArray 9)) fun e w' => e = .returned (.agg (D.map B8).toArray) ∧ Below w.heap.size w w' := by
  have h := of_new (t : Int) (ps.map bs) D w (fun _ => by rw [ofD_hof t _ ht, strs_bs]; exact hD ()) (by have := parts_len (t : Int) ps hl; omega) (by rw [List.length_map]; exact hn) HY
  rw [List.length_map, List.map_map] at h
  exact h
theorem of1_new (t : Nat) (ti : Int) (a D : List UInt8) (w : World) (g : Nat) (hg : g = w.heap.size) (hti : ti = (t : Int)) (ht : t < 256) (hD : Unit → SG.hof t [a] = D) (ha : a.length ≤ 1000000) (HY : Lay w) :
    Calls Tryd.prog 37 #[.int .i64 ti, .slice (some ⟨g, 0, none⟩) 1 1] (w.alloc (.cells #[.string ⟨a.toArray⟩] 9)) fun e w' => e = .returned (.agg (D.map B8).toArray) ∧ Below w.heap.size w w' := by
  subst hg hti
  exact of_parts t [a] D w ht hD (fun l hl => by simp at hl; subst hl; exact ha) (by simp) HY
theorem of2_new (t : Nat) (ti : Int) (a b D : List UInt8) (w : World) (g : Nat) (hg : g = w.heap.size) (hti : ti = (t : Int)) (ht : t < 256) (hD : Unit → SG.hof t [a, b] = D) (ha : a.length ≤ 1000000) (hb : b.length ≤ 1000000) (HY : Lay w) :
    Calls Tryd.prog 37 #[.int .i64 ti, .slice (some ⟨g, 0, none⟩) 2 2] (w.alloc (.cells #[.string ⟨a.toArray⟩, .string ⟨b.toArray⟩] 9)) fun e w' => e = .returned (.agg (D.map B8).toArray) ∧ Below w.heap.size w w' := by
  subst hg hti
  exact of_parts t [a, b] D w ht hD (fun l hl => by simp at hl; rcases hl with rfl | rfl <;> assumption) (by simp) HY
theorem of3_new (t : Nat) (ti : Int) (a b c D : List UInt8) (w : World) (g : Nat) (hg : g = w.heap.size) (hti : ti = (t : Int)) (ht : t < 256) (hD : Unit → SG.hof t [a, b, c] = D) (ha : a.length ≤ 1000000) (hb : b.length ≤ 1000000) (hc : c.length ≤ 1000000) (HY : Lay w) :
    Calls Tryd.prog 37 #[.int .i64 ti, .slice (some ⟨g, 0, none⟩) 3 3] (w.alloc (.cells #[.string ⟨a.toArray⟩, .string ⟨b.toArray⟩, .string ⟨c.toArray⟩] 9)) fun e w' => e = .returned (.agg (D.map B8).toArray) ∧ Below w.heap.size w w' := by
  subst hg hti
  exact of_parts t [a, b, c] D w ht hD (fun l hl => by simp at hl; rcases hl with rfl | rfl | rfl <;> assumption) (by simp) HY
end Go.Proofs.YtkakiepaffhhjaaDoor

/-
  Contracts of the walks over sign.leaf, sign.join and sign.secret. Conditions: digests of 16 bytes; the tables read as the document has them.
-/
namespace Go.Proofs.YtkakiepaffhhjaaDoor
open Go.RowKit

theorem digs_len : ∀ (xs : List (List UInt8)), (∀ d ∈ xs, d.length = 16) → (xs.flatMap fun d => d).length = 16 * xs.length
  | [], _ => rfl
  | d :: r, h => by
    rw [List.flatMap_cons, List.length_append, h d (by simp), digs_len r (fun x hx => h x (by simp [hx])), List.length_cons]; omega
set_option maxRecDepth 100000 in
set_option maxHeartbeats 400000 in
theorem sleaf_any (A : Option Addr) (cap n : Nat) (xs : List (List UInt8)) (D : List UInt8) (w : World) (hD : Unit → SG.leaf xs = D) (hn : n = xs.length) (h35 : xs.length ≤ 100) (h16 : ∀ d ∈ xs, d.length = 16) (hh : Holds w A (digCells xs)) (HY : Lay w) :
    Calls Tryd.prog 60 #[.slice A n cap] w fun e w' => e = .returned (.agg (D.map B8).toArray) ∧ Below w.heap.size w w' := by
  have hel : (WM.encI (xs.length : Int)).length ≤ 10 := WM.encI_le ⟨by omega, by omega⟩
  have hep := WM.encI_pos (xs.length : Int)
  have hlen : (WM.encAll (fun d => d) xs).length = (WM.encI (xs.length : Int)).length + 16 * xs.length := by
    show (WM.encI (xs.length : Int) ++ xs.flatMap fun d => d).length = _
    rw [List.length_append, digs_len xs h16]
  have hdg := fun w1 (h1 : Holds w1 A (digCells xs)) => digests_any A cap xs w1 h16 (by omega) (by omega) h1
  obtain ⟨R, hR⟩ : ∃ R, Hid (WM.encAll (fun d => d) xs = R) := ⟨_, rfl⟩
  have hRl : R.length ≤ 2000 := by rw [← hR.out]; omega
  have hR0 : 0 < R.length := by rw [← hR.out]; omega
  have hDh : Unit → SG.hof 1 [R] = D := fun _ => by rw [← hD (), ← hR.out]; rfl
  have hDl : Hid (D.length = 16) := by rw [← hDh ()]; exact SG.hof_length _ _
  rw [hR.out, ← hn] at hdg
  clear hD hn h16 hlen hR
  go_enter Tryd.func60, Tryd.ntmps60
  go_wp2_with (with_reducible refine wpList_alloc (o := ⟨some 2, .alloc 23, _, _, _, _⟩) ?g1 23 ?o1 (aggB (SM.zeros 16)) zero16 ?z1 ?c1 ?_)
  try (case g1 => rfl)
  try (case o1 => rfl)
  try (case z1 => exact Tryd.zero44)
  try (case c1 => rfl)
  intro gr w1 hgr hs1 hb1 hB1
  have hle : w.heap.size ≤ gr := Nat.le_of_eq hgr.out.symm
  have hbel1 : Below w.heap.size w w1 := hb1.mono hle
  have hh1 := hh.next hbel1
  clear hgr hs1 hb1 hh
  go_wp2_with fail
  (with_reducible refine (hdg _ hh1).mono ?_)
  rintro e w2 ⟨v2, rfl, hown2, hb2⟩
  obtain ⟨g2, c2, rfl, hcs2⟩ := own_some hown2 hR0
  have hB2 := hB1.next hb2 hB1.lt
  have hbel2 := below_join hbel1 hb2
  have hcv := run_conv_later w2 (some ⟨g2, 0, none⟩) c2 R.length R rfl (fun j u hu => ⟨_, rfl, hcs2 j u hu⟩) w2 (Below.refl _ _)
  have HY2 := HY.next hbel2
  clear hown2 hcs2 hB1 hbel1 hb2 hh1 hdg
  go_wp2_with fail
  (with_reducible refine (of1_new 1 1 R D w2 _ rfl rfl (by decide) hDh (by omega) HY2).mono ?_)
  rintro e w3 ⟨rfl, hb3⟩
  have hB3 := hB2.next hb3 hB2.lt
  have hbel3 := below_join hbel2 hb3
  clear hB2 hbel2 hb3 hcv HY2
  go_wp2_with (with_reducible refine wpList_put (o := ⟨none, .store 23 (.tmp 2) (.tmp 7), _, _, _, _⟩) ?g2 23 (.tmp 2) (.tmp 7) ?o2 gr 0 ?x2 (.agg (D.map B8).toArray) ?y2 hB3 (D.map B8) ?v2 ?i2 ?l2 ?q2 ?_)
  try (case y2 => rfl)
  try (case x2 => rfl)
  try (case g2 => rfl)
  try (case o2 => rfl)
  try (case v2 => rfl)
  try (case i2 => exact (by rw [List.length_map, hDl.out]; exact Tryd.size44))
  try (case l2 => (rw [List.length_map, hDl.out]; exact Nat.le_refl _))
  try (case q2 => exact B8_one _)
  intro w4 hu4 hB4
  rw [splice_all _ _ (by rw [List.length_map, hDl.out]; rfl)] at hB4
  have hbel4 := hbel3.trans (hu4.below (B := w.heap.size) hle)
  go_wp2
  refine bodyPost_ret (results_cell_row rfl _ _ gr _ _ _ _ rfl hB4 Tryd.underlying23 rfl (by rw [List.size_toArray, List.length_map, hDl.out]; exact Tryd.size44)) rfl ⟨rfl, hbel4⟩

set_option maxRecDepth 100000 in
set_option maxHeartbeats 800000 in
theorem sjoin_any (lv n : Nat) (a b D : List UInt8) (w : World) (hD : Unit → SG.node lv n a b = D) (hlv : lv ≤ 1000) (hn : n ≤ 1000000) (ha : a.length = 16) (hb : b.length = 16) (HY : Lay w) :
    Calls Tryd.prog 49 #[.int .i64 lv, .int .i64 n, .agg (a.map B8).toArray, .agg (b.map B8).toArray] w fun e w' => e = .returned (.agg (D.map B8).toArray) ∧ Below w.heap.size w w' := by
  have HA := Lib.hid ha
  have HB := Lib.hid hb
  obtain ⟨R, hR⟩ : ∃ R, (Unit → SG.ints [(lv : Int), (n : Int)] = R) := ⟨_, fun _ => rfl⟩
  have hRl : R.length ≤ 110 := by rw [← hR ()]; exact ints_len _ (fun x hx => by simp at hx; rcases hx with rfl | rfl <;> exact ⟨by omega, by omega⟩) (by simp)
  have hDh : Unit → SG.hof 2 [R, a, b] = D := fun _ => by rw [← hD (), ← hR ()]; rfl
  have hDl : Hid (D.length = 16) := by rw [← hDh ()]; exact SG.hof_length _ _
  clear hD ha hb
  go_enter Tryd.func49, Tryd.ntmps49
  go_wp2_with (with_reducible refine wpList_box (o := ⟨some 6, .box 23 (.tmp 2), _, _, _, _⟩) ?g1 23 (.tmp 2) ?o1 (.agg (a.map B8).toArray) (a.map B8) ?x1 ?c1 ?_)
  try (case g1 => rfl)
  try (case o1 => rfl)
  try (case x1 => rfl)
  try (case c1 => rfl)
  intro ga w1 hga hs1 hb1 hB1
  go_wp2_with (with_reducible refine wpList_box (o := ⟨some 7, .box 23 (.tmp 3), _, _, _, _⟩) ?g2 23 (.tmp 3) ?o2 (.agg (b.map B8).toArray) (b.map B8) ?x2 ?c2 ?_)
  try (case g2 => rfl)
  try (case o2 => rfl)
  try (case x2 => rfl)
  try (case c2 => rfl)
  intro gb w2 hgb hs2 hb2 hB2
  go_wp2_with (with_reducible refine wpList_alloc (o := ⟨some 8, .alloc 23, _, _, _, _⟩) ?g3 23 ?o3 (aggB (SM.zeros 16)) zero16 ?z3 ?c3 ?_)
  try (case g3 => rfl)
  try (case o3 => rfl)
  try (case z3 => exact Tryd.zero44)
  try (case c3 => rfl)
  intro gr w3 hgr hs3 hb3 hB3
  have hl1 : ga < gb := by have := hs1.out; have := hgb.out; have := hga.out; omega
  have hl2 : gb < gr := by have := hs2.out; have := hgr.out; have := hgb.out; omega
  have hle : w.heap.size ≤ ga := Nat.le_of_eq hga.out.symm
  have hBa := (hB1.next hb2 hl1).next hb3 (by omega)
  have hBb := hB2.next hb3 hl2
  have hbel : Below w.heap.size w w3 := ((hb1.mono hle).trans (hb2.mono (by omega))).trans (hb3.mono (by omega))
  clear hga hgb hgr hs1 hs2 hs3 hb1 hb2 hb3 hB1 hB2
  have hlvI : WM.okI (lv : Int) := ⟨by omega, by omega⟩
  have hnI : WM.okI (n : Int) := ⟨by omega, by omega⟩
  have hS : ∀ w', Below w3.heap.size w3 w' → (Below w.heap.size w w' ∧ w'.rangeAt ga 0 (a.map B8) ∧ w'.rangeAt gb 0 (b.map B8)) := fun w' h => ⟨below_join hbel h, blk_range (hBa.next h hBa.lt), blk_range (hBb.next h hBb.lt)⟩
  have hu := Tryd.underlying23
  have hza : (Tryd.prog.info? 23).map (·.size) = some (a.map B8).length := by rw [List.length_map, HA.out]; exact Tryd.size44
  have hzb : (Tryd.prog.info? 23).map (·.size) = some (b.map B8).length := by rw [List.length_map, HB.out]; exact Tryd.size44
  have hd3 := below_drew w3
  go_wp2
  refine wp_region_held_drew (S := fun w' => Below w.heap.size w w' ∧ w'.rangeAt ga 0 (a.map B8) ∧ w'.rangeAt gb 0 (b.map B8)) (by kernel_rfl) (hS _ hd3) (fun hHeld => ?_)
  generalize w3.drew = wd at hd3 hHeld ⊢
  refine wpAnyH_take (i := 0) (v := ?vj0) rfl (by kernel_rfl) (by kernel_rfl) (by kernel_rfl) (fun _ _ _ h => h) (Or.inl ⟨by rfl, ?yj0⟩) (by assumption) ?rj0
  case yj0 => intro w hSw; (try dsimp only at hSw); go_simp <;> (try with_reducible rfl)
  (try simp only [List.getElem_toArray, List.getElem_cons_zero, Act.put, List.setIfInBounds_toArray, List.set_cons_zero, List.set_cons_succ])
  refine wpAnyH_take (i := 1) (v := ?vj1) rfl (by kernel_rfl) (by kernel_rfl) (by kernel_rfl) (fun _ _ _ h => h) (Or.inl ⟨by rfl, ?yj1⟩) (by assumption) ?rj1
  case yj1 => intro w hSw; (try dsimp only at hSw); go_simp <;> (try with_reducible rfl)
  (try simp only [List.getElem_toArray, List.getElem_cons_succ, List.getElem_cons_zero, Act.put, List.setIfInBounds_toArray, List.set_cons_zero, List.set_cons_succ])
  refine' wpAnyH_take (i := 4) (v := _) rfl (by kernel_rfl) (by kernel_rfl) (by kernel_rfl) (fun _ _ _ h => h) (yieldsIf_load_mid (by rfl) _ _ (by rfl) _ _ (by rfl) _ _ ?Sj4 ?uj4 ?dj4 ?ij4) (by assumption) ?rj4
  case Sj4 => exact (by intro w h; exact h.2.1)
  case uj4 => exact hu
  case dj4 => rfl
  case ij4 => exact hza
  (try simp only [List.getElem_toArray, List.getElem_cons_succ, List.getElem_cons_zero, Act.put, List.setIfInBounds_toArray, List.set_cons_zero, List.set_cons_succ])
  refine' wpAnyH_take (i := 6) (v := _) rfl (by kernel_rfl) (by kernel_rfl) (by kernel_rfl) (fun _ _ _ h => h) (yieldsIf_load_mid (by rfl) _ _ (by rfl) _ _ (by rfl) _ _ ?Sj6 ?uj6 ?dj6 ?ij6) (by assumption) ?rj6
  case Sj6 => exact (by intro w h; exact h.2.2)
  case uj6 => exact hu
  case dj6 => rfl
  case ij6 => exact hzb
  (try simp only [List.getElem_toArray, List.getElem_cons_succ, List.getElem_cons_zero, Act.put, List.setIfInBounds_toArray, List.set_cons_zero, List.set_cons_succ])
  refine wpAnyH_ready (rs := [2]) (by kernel_rfl) (by simp) ?_
  refine AllReadyH.cons rfl (fun K hK => ?_) AllReadyH.nil
  go_simp
  refine hK.out _ _ (hS _ (below_join hd3 (below_new _ _))) (fun hHeld => ?_)
  clear hK K
  refine wpAnyH_ready (rs := [3]) (by kernel_rfl) (by simp) ?_
  refine AllReadyH.cons rfl (fun K hK => ?_) AllReadyH.nil
  go_simp
  go_wp2_with fail
  (with_reducible refine (ints2_new lv n R wd _ rfl hR hlvI hnI).mono ?_)
  rintro e w4 ⟨rfl, hb4⟩
  have hk4 := below_join hd3 hb4
  clear hb4 hHeld
  refine hK.out _ _ (hS _ hk4) (fun hHeld => ?_)
  clear hK K
  refine wpAnyH_ready (rs := [5]) (by kernel_rfl) (by simp) ?_
  refine AllReadyH.cons rfl (fun K hK => ?_) AllReadyH.nil
  go_simp
  go_wp2_with fail
  (with_reducible refine (stext_any a _ HA.out).mono ?_)
  rintro e w5 ⟨rfl, hb5⟩
  have hk5 := below_join hk4 hb5
  clear hb5 hHeld hk4
  refine hK.out _ _ (hS _ hk5) (fun hHeld => ?_)
  clear hK K
  refine wpAnyH_ready (rs := [7]) (by kernel_rfl) (by simp) ?_
  refine AllReadyH.cons rfl (fun K hK => ?_) AllReadyH.nil
  go_simp
  go_wp2_with fail
  (with_reducible refine (stext_any b _ HB.out).mono ?_)
  rintro e w6 ⟨rfl, hb6⟩
  have hk6 := below_join hk5 hb6
  clear hb6 hHeld hk5
  refine hK.out _ _ (hS _ hk6) (fun hHeld => ?_)
  clear hK K
  refine wpAnyH_ready (rs := [8]) (by kernel_rfl) (by simp) ?_
  refine AllReadyH.cons rfl (fun K hK => ?_) AllReadyH.nil
  go_simp
  refine hK.out _ _ (hS _ (below_join hk6 (below_new _ _))) (fun hHeld => ?_)
  clear hK K
  refine wpAnyH_ready (rs := [9]) (by kernel_rfl) (by simp) ?_
  refine AllReadyH.cons rfl (fun K hK => ?_) AllReadyH.nil
  go_simp
  go_wp2_with fail
  (with_reducible refine (of3_new 2 2 R a b D w6 _ rfl rfl (by decide) hDh (by omega) (by rw [HA.out]; decide) (by rw [HB.out]; decide) (HY.next (below_join hbel hk6))).mono ?_)
  rintro e w7 ⟨rfl, hb7⟩
  have hk7 := below_join hk6 hb7
  have hBr := hB3.next hk7 hB3.lt
  clear hb7 hHeld hk6
  refine hK.out _ _ (hS _ hk7) (fun hHeld => ?_)
  clear hK K
  refine wpAnyH_ready (rs := [10]) (by kernel_rfl) (by simp) ?_
  refine AllReadyH.cons rfl (fun K hK => ?_) AllReadyH.nil
  rw [if_pos (by rfl)]
  refine wp_put 23 (.tmp 8) (.tmp 18) rfl gr 0 rfl (.agg (D.map B8).toArray) rfl hBr (D.map B8) rfl (by rw [List.length_map, hDl.out]; exact Tryd.size44) (by rw [List.length_map, hDl.out]; exact Nat.le_refl _) (B8_one _) ?_
  intro w8 hu8 hB8
  rw [splice_all _ _ (by rw [List.length_map, hDl.out]; rfl)] at hB8
  have hk8 : Below w.heap.size w w8 := (below_join hbel hk7).trans (hu8.below (by omega))
  have hBa8 := (hBa.next hk7 hBa.lt).upd hu8 (by omega)
  have hBb8 := (hBb.next hk7 hBb.lt).upd hu8 (by omega)
  refine hK.out _ _ ⟨hk8, blk_range hBa8, blk_range hBb8⟩ (fun hHeld => ?_)
  clear hK K
  refine wpAnyH_done (by kernel_rfl) ?_ _
  go_wp2
  refine bodyPost_ret (results_cell_row rfl _ _ gr _ _ _ _ rfl hB8 Tryd.underlying23 rfl (by rw [List.size_toArray, List.length_map, hDl.out]; exact Tryd.size44)) rfl ⟨rfl, hk8⟩
end Go.Proofs.YtkakiepaffhhjaaDoor

/-
  Contracts of the walks over sign.secret and the closure of sign.climber. Conditions: at most 10^8 bytes; the tables read as the document has them.
-/
namespace Go.Proofs.YtkakiepaffhhjaaDoor
open Go.RowKit

theorem take_extract (M : List UInt8) (k : Nat) : (⟨M.toArray⟩ : ByteArray).extract 0 k = ⟨(M.take k).toArray⟩ := by
  apply ByteArray.ext
  apply Array.toList_inj.1
  simp [ByteArray.data_extract]
set_option maxRecDepth 100000 in
set_option maxHeartbeats 800000 in
theorem secret_any (seed : ByteArray) (i j : Nat) (D : List UInt8) (w : World) (hD : Unit → SG.start seed.data.toList i j = D) (hs : seed.size ≤ 100000000) (hi : i ≤ 1000) (hj : j ≤ 1000) (HY : Lay w) :
    Calls Tryd.prog 33 #[.string seed, .int .i64 i, .int .i64 j] w fun e w' => e = .returned (.agg (D.map B8).toArray) ∧ Below w.heap.size w w' := by
  obtain ⟨R, hR⟩ : ∃ R, (Unit → SG.ints [(i : Int), (j : Int)] = R) := ⟨_, fun _ => rfl⟩
  have hiI : WM.okI (i : Int) := ⟨by omega, by omega⟩
  have hjI : WM.okI (j : Int) := ⟨by omega, by omega⟩
  have hRl : R.length ≤ 110 := by rw [← hR ()]; exact ints_len _ (fun x hx => by simp at hx; rcases hx with rfl | rfl <;> assumption) (by simp)
  obtain ⟨M, hM⟩ : ∃ M, Hid (mac seed.data.toList (⟨R.toArray⟩ : ByteArray).data.toList = M) := ⟨_, rfl⟩
  have hMl : Hid (M.length = 32) := by rw [← hM.out]; exact mac_length _ _
  have hMs : (⟨M.toArray⟩ : ByteArray).size = 32 := by rw [str_size, hMl.out]
  have hex : (⟨M.toArray⟩ : ByteArray).extract 0 16 = ⟨D.toArray⟩ := by
    rw [take_extract, ← hD (), ← hM.out, str_toList, ← hR ()]; rfl
  have hDl : Hid (D.length = 16) := by rw [← hD ()]; exact SG.start_length _ _ _
  clear hD
  have HEX := Lib.hid hex
  have HMS := Lib.hid hMs
  clear hex hMs
  go_enter Tryd.func33, Tryd.ntmps33
  go_wp2_with (with_reducible refine wpList_alloc (o := ⟨some 6, .alloc 23, _, _, _, _⟩) (by with_unfolding_all rfl) 23 (by with_unfolding_all rfl) (aggB (SM.zeros 16)) zero16 (by exact Tryd.zero44) (by with_unfolding_all rfl) ?_)
  intro gr w1 hgr hs1 hb1 hB1
  have hle : w.heap.size ≤ gr := Nat.le_of_eq hgr.out.symm
  have hbel1 : Below w.heap.size w w1 := hb1.mono hle
  clear hgr hs1 hb1
  have hRs : (⟨R.toArray⟩ : ByteArray).size ≤ 900000000 := by rw [str_size]; omega
  go_wp2_with fail
  (with_reducible refine (ints2_new i j R w1 _ rfl hR hiI hjI).mono ?_)
  rintro e w2 ⟨rfl, hb2⟩
  have hB2 := hB1.next hb2 hB1.lt
  have hbel2 := below_join hbel1 hb2
  clear hB1 hbel1 hb2
  go_wp2_with fail
  (with_reducible refine (mac_to seed ⟨R.toArray⟩ M _ hM (by omega) hRs (HY.next hbel2)).mono ?_)
  rintro e w3 ⟨rfl, hb3⟩
  have hex := HEX.out
  have hMs := HMS.out
  generalize (⟨M.toArray⟩ : ByteArray) = ms at hMs hex ⊢
  have hB3 := hB2.next hb3 hB2.lt
  have hbel3 := below_join hbel2 hb3
  clear hB2 hbel2 hb3
  have hDs : (⟨D.toArray⟩ : ByteArray).size = 16 := by rw [str_size, hDl.out]
  have hcs := fun w' => Lib.run_convert_string_bytes (P := Tryd.prog) w' 9 43 5 ⟨D.toArray⟩ Tryd.underlying9 Tryd.underlying43 Tryd.underlying5
  have hbc := below_bytesWorld w3 5 ⟨D.toArray⟩
  have hhc := holds_bytesWorld w3 5 ⟨D.toArray⟩
  rw [str_toList] at hhc
  have hsap := fun cap => run_sap w3.heap.size cap
  have hrg : (Lib.bytesWorld w3 5 ⟨D.toArray⟩).rangeAt w3.heap.size 0 (D.map B8) := fun k v hv => by
    obtain ⟨ad, e, hc⟩ := hhc k v hv
    cases e
    rw [addr_mid] at hc
    exact hc
  have hBc := hB3.next hbc hB3.lt
  have hbelc := below_join hbel3 hbc
  have hu := Tryd.underlying23
  have hz : (Tryd.prog.info? 23).map (·.size) = some (D.map B8).length := by rw [List.length_map, hDl.out]; exact Tryd.size44
  clear hhc hbc hB3 hbel3
  go_wp2_with (first | (with_reducible refine wpList_load_mid (op := ⟨some 18, .load 23 (.tmp 17), _, _, _, _⟩) (by with_unfolding_all rfl) 23 (.tmp 17) (by with_unfolding_all rfl) w3.heap.size 0 (by with_unfolding_all rfl) (D.map B8) (.array 16 5) hrg hu (by with_unfolding_all rfl) hz ?_) | (with_reducible refine wpList_put (o := ⟨none, .store 23 (.tmp 6) (.tmp 18), _, _, _, _⟩) ?g2 23 (.tmp 6) (.tmp 18) ?o2 gr 0 ?x2 (.agg (D.map B8).toArray) ?y2 hBc (D.map B8) ?v2 ?i2 ?l2 ?q2 ?_))
  try (case y2 => rfl)
  try (case x2 => rfl)
  try (case g2 => rfl)
  try (case o2 => rfl)
  try (case v2 => rfl)
  try (case i2 => exact hz)
  try (case l2 => (rw [List.length_map, hDl.out]; exact Nat.le_refl _))
  try (case q2 => exact B8_one _)
  intro w4 hu4 hB4
  rw [splice_all _ _ (by rw [List.length_map, hDl.out]; rfl)] at hB4
  have hbel4 := hbelc.trans (hu4.below (B := w.heap.size) hle)
  go_wp2
  refine bodyPost_ret (results_cell_row rfl _ _ gr _ _ _ _ rfl hB4 Tryd.underlying23 rfl (by rw [List.size_toArray, List.length_map, hDl.out]; exact Tryd.size44)) rfl ⟨rfl, hbel4⟩

theorem SG.climb_succ (i j : Nat) (v : List UInt8) (a n : Nat) : SG.climb i j v a (n + 1) = SG.hof 1 [SG.ints [(i : Int), (j : Int), ((a + n + 1 : Nat) : Int)], SG.climb i j v a n] := rfl
def ClRel (i j a b : Nat) (v : List UInt8) (gv gr : Nat) (_w1 w : World) (k : Value) (wr : World) : Prop :=
  ∃ n : Nat, n ≤ b - a ∧ k = .int .i64 ((a + n + 1 : Nat) : Int) ∧ Blk wr gv 23 ((SG.climb i j v a n).map B8) ∧ Blk wr gr 23 zero16 ∧ Below w.heap.size w wr
set_option maxRecDepth 100000 in
set_option maxHeartbeats 1600000 in
theorem climb_any (gi : Nat) (i j a b : Nat) (v D : List UInt8) (w : World) (hD : Unit → SG.climb i j v a (b - a) = D) (hi : i ≤ 1000) (hj : j ≤ 1000) (ha : a ≤ b) (hb : b ≤ 1000) (hv : v.length = 16) (hc : w.cell? ⟨gi, 0, none⟩ = some (.int .i64 i)) (HY : Lay w) :
    Calls Tryd.prog 50 #[.int .i64 j, .agg (v.map B8).toArray, .int .i64 a, .int .i64 b, .pointer (some ⟨gi, 0, none⟩)] w fun e w' => e = .returned (.agg (D.map B8).toArray) ∧ Below w.heap.size w w' := by
  have hgi := World.block_lt_of_cell? w _ hc
  have hiI : WM.okI (i : Int) := ⟨by omega, by omega⟩
  have hjI : WM.okI (j : Int) := ⟨by omega, by omega⟩
  have HV := Lib.hid hv
  have HC := Lib.hid hc
  clear hv hc
  go_enter Tryd.func50, Tryd.ntmps50
  go_wp2_with (with_reducible refine wpList_box (o := ⟨some 6, .box 23 (.tmp 1), _, _, _, _⟩) ?g1 23 (.tmp 1) ?o1 (.agg (v.map B8).toArray) (v.map B8) ?x1 ?c1 ?_)
  try (case g1 => rfl)
  try (case o1 => rfl)
  try (case x1 => rfl)
  try (case c1 => rfl)
  intro gv w1 hgv hs1 hb1 hB1
  go_wp2_with (with_reducible refine wpList_alloc (o := ⟨some 9, .alloc 23, _, _, _, _⟩) (by with_unfolding_all rfl) 23 (by with_unfolding_all rfl) (aggB (SM.zeros 16)) zero16 (by exact Tryd.zero44) (by with_unfolding_all rfl) ?_)
  intro gr w2 hgr hs2 hb2 hB2
  have hl1 : gv < gr := by have := hs1.out; have := hgr.out; have := hgv.out; omega
  have hle : w.heap.size ≤ gv := Nat.le_of_eq hgv.out.symm
  have hBv2 := hB1.next hb2 hl1
  have hbel2 : Below w.heap.size w w2 := (hb1.mono hle).trans (hb2.mono (by omega))
  clear hgv hgr hs1 hs2 hb1 hb2 hB1
  go_wp2
  go_loopw [10] (ClRel i j a b v gv gr w1 w) (fun k _ => b + 1 - (intOf k).toNat)
  case atStart => exact ⟨0, Nat.zero_le _, by go_num, hBv2, hB2, hbel2⟩
  case round =>
    clear hBv2 hB2 hbel2
    obtain ⟨n, hn, rfl, hBv0, hBr0, hbel⟩ := hrel
    have HVn : Hid ((SG.climb i j v a n).length = 16) := SG.climb_length i j v a HV.out n
    by_cases hlt : n < b - a
    · obtain ⟨k, hk⟩ : ∃ k, Hid (a + n + 1 = k) := ⟨_, rfl⟩
      have hkb : k ≤ 1000 := by have := hk.out; omega
      have hkb2 : k ≤ b := by have := hk.out; omega
      have hkI : WM.okI (k : Int) := ⟨by omega, by omega⟩
      obtain ⟨R, hR⟩ : ∃ R, (Unit → SG.ints [(i : Int), (j : Int), (k : Int)] = R) := ⟨_, fun _ => rfl⟩
      have hRl : R.length ≤ 110 := by rw [← hR ()]; exact ints_len _ (fun x hx => by simp at hx; rcases hx with rfl | rfl | rfl <;> assumption) (by simp)
      obtain ⟨vm, hvm⟩ : ∃ vm, Hid (SG.climb i j v a (n + 1) = vm) := ⟨_, rfl⟩
      have HVm : Hid (vm.length = 16) := by rw [← hvm.out]; exact SG.climb_length i j v a HV.out (n + 1)
      have hVm : Unit → SG.hof 1 [R, SG.climb i j v a n] = vm := fun _ => by rw [← hvm.out, SG.climb_succ, hk.out, hR ()]
      have HSUC := hvm
      rw [hk.out]
      generalize SG.climb i j v a n = vn at hBv0 HVn hVm
      have hS0 : ∀ w', Below w.heap.size w w' → (Below w.heap.size w w' ∧ w'.cell? ⟨gi, 0, none⟩ = some (.int .i64 i)) := fun w' h => ⟨h, by rw [h.cell hgi]; exact HC.out⟩
      have hSw := hS0
      have hS : ∀ w', Below wr.heap.size wr w' → (Below w.heap.size w w' ∧ w'.cell? ⟨gi, 0, none⟩ = some (.int .i64 i)) := fun w' h => hS0 _ (below_join hbel h)
      have hu := Tryd.underlying23
      have hz : (Tryd.prog.info? 23).map (·.size) = some (vn.map B8).length := by rw [List.length_map, HVn.out]; exact Tryd.size44
      have hdd0 := below_drew wr
      go_wp2
      refine wp_region_held_drew (S := fun w' => Below w.heap.size w w' ∧ w'.cell? ⟨gi, 0, none⟩ = some (.int .i64 i)) (by kernel_rfl) (hS _ hdd0) (fun hHeld => ?_)
      generalize wr.drew = wd at hdd0 hHeld ⊢
      have hBv := hBv0
      have hBr := hBr0
      have hdd := hdd0
      refine wpAnyH_take (i := 0) (v := ?vc0) rfl (by kernel_rfl) (by kernel_rfl) (by kernel_rfl) (fun _ _ _ h => h) (Or.inl ⟨by rfl, ?yc0⟩) (by assumption) ?rc0
      case yc0 => intro w hSw; (try dsimp only at hSw); go_simp <;> (try with_reducible rfl)
      (try simp only [List.getElem_toArray, List.getElem_cons_zero, Act.put, List.setIfInBounds_toArray, List.set_cons_zero, List.set_cons_succ])
      refine wpAnyH_take (i := 1) (v := ?vc1) rfl (by kernel_rfl) (by kernel_rfl) (by kernel_rfl) (fun _ _ _ h => h) (Or.inl ⟨by rfl, ?yc1⟩) (by assumption) ?rc1
      case yc1 => intro w hSw; (try dsimp only at hSw); go_simp <;> (try with_reducible rfl)
      (try simp only [List.getElem_toArray, List.getElem_cons_succ, List.getElem_cons_zero, Act.put, List.setIfInBounds_toArray, List.set_cons_zero, List.set_cons_succ])
      refine wpAnyH_take (i := 2) (v := ?vc2) rfl (by kernel_rfl) (by kernel_rfl) (by kernel_rfl) (fun _ _ _ h => h) (Or.inl ⟨by rfl, ?yc2⟩) (by assumption) ?rc2
      case yc2 => intro w hSw; (try dsimp only at hSw); go_simp <;> (try with_reducible rfl)
      (try simp only [List.getElem_toArray, List.getElem_cons_succ, List.getElem_cons_zero, Act.put, List.setIfInBounds_toArray, List.set_cons_zero, List.set_cons_succ])
      apply rest2
      · intro hrest
        refine wpAnyH_ready (rs := [3, 5]) (by kernel_rfl) (by simp) ?_
        refine AllReadyH.cons rfl (fun K hK => ?_) (AllReadyH.cons rfl (fun K hK => ?_) AllReadyH.nil)
        · go_simp
          refine hK.out _ _ (hS _ (below_join hdd (below_new _ _))) (fun hHeld => ?_)
          clear hK K
          refine wpAnyH_ready (rs := [4, 5]) (by kernel_rfl) (by simp) ?_
          refine AllReadyH.cons rfl (fun K hK => ?_) (AllReadyH.cons rfl (fun K hK => ?_) AllReadyH.nil)
          · go_simp
            go_wp2_with fail
            (with_reducible refine (ints3_new i j k R wd _ rfl hR hiI hjI hkI).mono ?_)
            rintro e wA ⟨rfl, hbA⟩
            have hkA := below_join hdd hbA
            clear hHeld
            refine hK.out _ _ (hS _ hkA) (fun hHeld => ?_)
            clear hK K
            refine wpAnyH_ready (rs := [5]) (by kernel_rfl) (by simp) ?_
            refine AllReadyH.cons rfl (fun K hK => ?_) AllReadyH.nil
            rw [if_pos (by rfl)]
            refine' wp_load_mid _ _ rfl gv 0 rfl (vn.map B8) _ ?cA1 ?uA1 ?dA1 ?iA1 ?rA1
            case cA1 => exact blk_range (hBv.next hkA hBv.lt)
            case uA1 => exact hu
            case dA1 => rfl
            case iA1 => exact hz
            (try simp only [List.getElem_toArray, List.getElem_cons_succ, List.getElem_cons_zero, Act.put, List.setIfInBounds_toArray, List.set_cons_zero, List.set_cons_succ])
            refine hK.out _ _ (hS _ hkA) (fun hHeld => ?_)
            clear hK K
            have hBvA := hBv.next hkA hBv.lt
            have hBrA := hBr.next hkA hBr.lt
            (try simp only [List.getElem_toArray, List.getElem_cons_succ, List.getElem_cons_zero, Act.put, List.setIfInBounds_toArray, List.set_cons_zero, List.set_cons_succ])
            generalize Value.slice (some ⟨wd.heap.size, 0, none⟩) 3 3 = v21
            revert hBvA hBrA hHeld
            exact hrest v21 wA
          · rw [if_pos (by rfl)]
            refine' wp_load_mid _ _ rfl gv 0 rfl (vn.map B8) _ ?cA2 ?uA2 ?dA2 ?iA2 ?rA2
            case cA2 => exact blk_range (hBv.next (below_join hdd (below_new _ _)) hBv.lt)
            case uA2 => exact hu
            case dA2 => rfl
            case iA2 => exact hz
            (try simp only [List.getElem_toArray, List.getElem_cons_succ, List.getElem_cons_zero, Act.put, List.setIfInBounds_toArray, List.set_cons_zero, List.set_cons_succ])
            refine hK.out _ _ (hS _ (below_join hdd (below_new _ _))) (fun hHeld => ?_)
            clear hK K
            refine wpAnyH_ready (rs := [4]) (by kernel_rfl) (by simp) ?_
            refine AllReadyH.cons rfl (fun K hK => ?_) AllReadyH.nil
            go_simp
            go_wp2_with fail
            (with_reducible refine (ints3_new i j k R wd _ rfl hR hiI hjI hkI).mono ?_)
            rintro e wA ⟨rfl, hbA⟩
            have hkA := below_join hdd hbA
            clear hHeld
            refine hK.out _ _ (hS _ hkA) (fun hHeld => ?_)
            clear hK K
            have hBvA := hBv.next hkA hBv.lt
            have hBrA := hBr.next hkA hBr.lt
            (try simp only [List.getElem_toArray, List.getElem_cons_succ, List.getElem_cons_zero, Act.put, List.setIfInBounds_toArray, List.set_cons_zero, List.set_cons_succ])
            generalize Value.slice (some ⟨wd.heap.size, 0, none⟩) 3 3 = v21
            revert hBvA hBrA hHeld
            exact hrest v21 wA
        · rw [if_pos (by rfl)]
          refine' wp_load_mid _ _ rfl gv 0 rfl (vn.map B8) _ ?cB ?uB ?dB ?iB ?rB
          case cB => exact blk_range (hBv.next hdd hBv.lt)
          case uB => exact hu
          case dB => rfl
          case iB => exact hz
          (try simp only [List.getElem_toArray, List.getElem_cons_succ, List.getElem_cons_zero, Act.put, List.setIfInBounds_toArray, List.set_cons_zero, List.set_cons_succ])
          refine hK.out _ _ (hS _ hdd) (fun hHeld => ?_)
          clear hK K
          refine wpAnyH_ready (rs := [3]) (by kernel_rfl) (by simp) ?_
          refine AllReadyH.cons rfl (fun K hK => ?_) AllReadyH.nil
          go_simp
          refine hK.out _ _ (hS _ (below_join hdd (below_new _ _))) (fun hHeld => ?_)
          clear hK K
          refine wpAnyH_ready (rs := [4]) (by kernel_rfl) (by simp) ?_
          refine AllReadyH.cons rfl (fun K hK => ?_) AllReadyH.nil
          go_simp
          go_wp2_with fail
          (with_reducible refine (ints3_new i j k R wd _ rfl hR hiI hjI hkI).mono ?_)
          rintro e wA ⟨rfl, hbA⟩
          have hkA := below_join hdd hbA
          clear hHeld
          refine hK.out _ _ (hS _ hkA) (fun hHeld => ?_)
          clear hK K
          have hBvA := hBv.next hkA hBv.lt
          have hBrA := hBr.next hkA hBr.lt
          (try simp only [List.getElem_toArray, List.getElem_cons_succ, List.getElem_cons_zero, Act.put, List.setIfInBounds_toArray, List.set_cons_zero, List.set_cons_succ])
          generalize Value.slice (some ⟨wd.heap.size, 0, none⟩) 3 3 = v21
          revert hBvA hBrA hHeld
          exact hrest v21 wA
      intro v21 wq hHeld hBq hBrq
      refine wpAnyH_ready (rs := [6]) (by kernel_rfl) (by simp) ?_
      refine AllReadyH.cons rfl (fun K hK => ?_) AllReadyH.nil
      go_simp
      go_wp2_with fail
      (with_reducible refine (stext_any vn _ HVn.out).mono ?_)
      rintro e wB ⟨rfl, hbB⟩
      have hBvB := hBq.next hbB hBq.lt
      have hBrB := hBrq.next hbB hBrq.lt
      have hkB := below_join hHeld.1 hbB
      clear hBq hBrq hbB hHeld
      refine hK.out _ _ (hSw _ hkB) (fun hHeld => ?_)
      clear hK K
      refine wpAnyH_ready (rs := [7]) (by kernel_rfl) (by simp) ?_
      refine AllReadyH.cons rfl (fun K hK => ?_) AllReadyH.nil
      go_simp
      refine hK.out _ _ (hSw _ (below_join hkB (below_new _ _))) (fun hHeld => ?_)
      clear hK K
      refine wpAnyH_ready (rs := [8]) (by kernel_rfl) (by simp) ?_
      refine AllReadyH.cons rfl (fun K hK => ?_) AllReadyH.nil
      go_simp
      go_wp2_with fail
      (with_reducible refine (of2_new 1 1 R vn vm wB _ rfl rfl (by decide) hVm (by omega) (by rw [HVn.out]; decide) (HY.next hkB)).mono ?_)
      rintro e wC ⟨rfl, hbC⟩
      have hBvC := hBvB.next hbC hBvB.lt
      have hBrC := hBrB.next hbC hBrB.lt
      have hkC := below_join hkB hbC
      clear hBvB hBrB hkB hbC hHeld
      refine hK.out _ _ (hSw _ hkC) (fun hHeld => ?_)
      clear hK K
      refine wpAnyH_ready (rs := [9]) (by kernel_rfl) (by simp) ?_
      refine AllReadyH.cons rfl (fun K hK => ?_) AllReadyH.nil
      rw [if_pos (by rfl)]
      refine wp_put 23 (.tmp 6) (.tmp 26) rfl gv 0 rfl (.agg (vm.map B8).toArray) rfl hBvC (vm.map B8) rfl (by rw [List.length_map, HVm.out]; exact Tryd.size44) (by rw [List.length_map, HVm.out, List.length_map, HVn.out]; exact Nat.le_refl _) (B8_one _) ?_
      intro wD hu_D hBD
      rw [splice_all _ _ (by rw [List.length_map, HVm.out, List.length_map, HVn.out])] at hBD
      have hBrD := hBrC.upd hu_D (by omega)
      have hkD := hkC.trans (hu_D.below (B := w.heap.size) (by omega))
      refine hK.out _ _ (hSw _ hkD) (fun hHeld => ?_)
      clear hK K
      refine wpAnyH_done (by kernel_rfl) ?_ _
      go_wp2
      go_roundw
      case rel => exact ⟨n + 1, by omega, by (have := hk.out; congr 1; omega), by rw [HSUC.out]; exact hBD, hBrD, hkD⟩
      case measure => simp [intOf]; omega
    · have hne : n = b - a := by omega
      have hDn : Hid (SG.climb i j v a n = D) := by
        have : SG.climb i j v a n = D := by rw [hne]; exact hD ()
        exact this
      have hDl : Hid (D.length = 16) := by rw [← hDn.out]; exact HVn.out
      rw [hDn.out] at hBv0
      have hgt : ¬ ((a + n + 1 : Nat) : Int) ≤ (b : Int) := by omega
      generalize a + n + 1 = k at hgt
      go_wp2_with (first | (with_reducible refine wpList_get (o := ⟨some 27, .load 23 (.tmp 6), _, _, _, _⟩) (by with_unfolding_all rfl) 23 (.tmp 6) (by with_unfolding_all rfl) gv 0 (by with_unfolding_all rfl) hBv0 (D.map B8) (cs_all _) (.array 16 5) (by exact Tryd.underlying23) (by with_unfolding_all rfl) (by rw [List.length_map, hDl.out]; exact Tryd.size44) ?_) | (with_reducible refine wpList_put (o := ⟨none, .store 23 (.tmp 9) (.tmp 27), _, _, _, _⟩) (by with_unfolding_all rfl) 23 (.tmp 9) (.tmp 27) (by with_unfolding_all rfl) gr 0 (by with_unfolding_all rfl) (.agg (D.map B8).toArray) (by with_unfolding_all rfl) hBr0 (D.map B8) (by with_unfolding_all rfl) (by rw [List.length_map, hDl.out]; exact Tryd.size44) (by with_unfolding_all (rw [List.length_map, hDl.out]; exact Nat.le_refl _)) (B8_one _) ?_))
      intro wE huE hBE
      rw [splice_all _ _ (by rw [List.length_map, hDl.out]; rfl)] at hBE
      have hbelE := hbel.trans (huE.below (B := w.heap.size) (by omega))
      go_wp2
      refine bodyPost_ret (results_cell_row rfl _ _ gr _ _ _ _ rfl hBE Tryd.underlying23 rfl (by rw [List.size_toArray, List.length_map, hDl.out]; exact Tryd.size44)) rfl ⟨rfl, hbelE⟩
end Go.Proofs.YtkakiepaffhhjaaDoor
