/-
  Contracts of the walks over the reference's padKey and Mac. Conditions: at most 10^7 bytes; its table reads as the document has it.
-/
import Derived.Test.YtnhnfdfjlagcjaaDoorHrt
import Derived.Test.YtnhnfdfjlagcjaaDoorHkeys
namespace Go.Proofs.YtnhnfdfjlagcjaaDoor
open Go.RowKit

/-- The first k bytes of a key, combined with a byte. -/
def xorK (K : List UInt8) (p : UInt8) (k : Nat) : List Value := ((K.take k).map (· ^^^ p)).map B8
theorem xorK_succ (K : List UInt8) (p : UInt8) (k : Nat) (h : k < K.length) : xorK K p (k + 1) = xorK K p k ++ [B8 (K.getD k 0 ^^^ p)] := by
  unfold xorK
  rw [List.take_succ_eq_append_getElem h, List.map_append, List.map_append, List.getD_eq_getElem?_getD, List.getElem?_eq_getElem h]
  rfl
def PkRel (K : List UInt8) (p : UInt8) (w : World) (v i : Value) (wr : World) : Prop :=
  ∃ k : Nat, k ≤ 64 ∧ i = .int .i64 k ∧ wr.ownsRow w.heap.size 5 1 v k (xorK K p k) ∧ Below w.heap.size w wr
theorem rsum_str (w1 : World) (e : TypeId) (b : Nat) (s : ByteArray) (n : Nat) (S : List UInt8) (cap : Nat) (hS : Unit → SM.sum s.data.toList = S) (hb : b = w1.heap.size) (hn : n = s.size) (hl : s.size ≤ 100000000) (HC : LayC w1) :
    Calls Tryd.prog 17 #[.slice (some ⟨b, 0, none⟩) n cap] (Lib.bytesWorld w1 e s) fun e w' => e = .returned (.agg (S.map B8).toArray) ∧ Below w1.heap.size w1 w' := by
  subst hb
  rw [← hS ()]
  have hb := below_bytesWorld w1 e s
  have hh := holds_bytesWorld w1 e s
  refine (rsum_any _ cap _ s.data.toList _ (by rw [bytes_size]; exact hn) (by rw [bytes_size]; exact hl) hh (HC.next hb)).mono ?_
  rintro e w' ⟨rfl, hb'⟩
  exact ⟨rfl, hb.trans (hb'.mono hb.size)⟩
theorem key_at (ks : ByteArray) (K : List UInt8) (hK : K = ks.data.toList ++ SM.zeros (64 - ks.size)) (k : Nat) (h : k < ks.size) : K.getD k 0 = ks[k] := by
  rw [← getD_byte ks k h, hK, List.getD_eq_getElem?_getD, List.getD_eq_getElem?_getD, List.getElem?_append_left (by rw [bytes_size]; exact h)]
theorem key_past (ks : ByteArray) (K : List UInt8) (hK : K = ks.data.toList ++ SM.zeros (64 - ks.size)) (k : Nat) (h : ¬ k < ks.size) (h64 : k < 64) : K.getD k 0 = 0 := by
  rw [hK, List.getD_eq_getElem?_getD, List.getElem?_append_right (by rw [bytes_size]; omega)]
  unfold SM.zeros
  rw [bytes_size, List.getElem?_replicate, if_pos (by omega)]
  rfl

set_option maxRecDepth 100000 in
set_option maxHeartbeats 1600000 in
theorem padKey_any (key : ByteArray) (p : UInt8) (w : World) (hk : key.size ≤ 10000000) (HC : LayC w) :
    Calls Tryd.prog 54 #[.string key, .int .u8 (p.toNat : Int)] w (PutPost ((keyBlk key.data.toList).map (· ^^^ p)) w) := by
  have hkl : Hid (key.data.toList.length = key.size) := bytes_size key
  by_cases h64 : 64 < key.size
  · obtain ⟨S, hS⟩ : ∃ S, (Unit → SM.sum key.data.toList = S) := ⟨_, fun _ => rfl⟩
    have hSl : Hid (S.length = 32) := by rw [← hS ()]; exact SM.sum_length _
    go_enter Tryd.func54, Tryd.ntmps54
    have hcs := fun w' => Lib.run_convert_string_bytes (P := Tryd.prog) w' 9 22 5 key Tryd.underlying9 Tryd.underlying22 Tryd.underlying5
    go_wp2_with fail
    (with_reducible refine (rsum_str w _ _ key _ S _ hS rfl rfl (by omega) HC).mono ?_)
    rintro e w1 ⟨rfl, hb1⟩
    go_wp2_with fail
    (with_reducible refine (bytes32_any S _ hSl.out).mono ?_)
    rintro e w2 ⟨rfl, hb2⟩
    have hbel1 := below_join hb1 hb2
    clear hb1 hb2 hcs
    have HK : Hid (keyBlk key.data.toList = (⟨S.toArray⟩ : ByteArray).data.toList ++ SM.zeros (64 - (⟨S.toArray⟩ : ByteArray).size)) := by
      have : keyBlk key.data.toList = (⟨S.toArray⟩ : ByteArray).data.toList ++ SM.zeros (64 - (⟨S.toArray⟩ : ByteArray).size) := by
        unfold keyBlk
        rw [if_pos (by rw [hkl.out]; exact h64), str_toList, str_size, hSl.out, hS ()]
      exact this
    have hks64 : (⟨S.toArray⟩ : ByteArray).size ≤ 64 := by rw [str_size, hSl.out]; decide
    generalize (⟨S.toArray⟩ : ByteArray) = ks at HK hks64
    clear hS hSl
    obtain ⟨i0, hi, hz0, hz1, hz2⟩ := info_parts Tryd.info8
    go_wp2
    go_loopw [6, 7] (PkRel (keyBlk key.data.toList) p w) (fun _ i _ => 64 - (intOf i).toNat)
    case atStart => exact ⟨0, by omega, rfl, World.ownsRow_nil _ _ _ _, hbel1⟩
    case round =>
      clear hbel1
      obtain ⟨k, hk, rfl, hown, hbel⟩ := hrel
      have hsz := hbel.size
      have hlt2 := hown.lt
      by_cases hlt : k < 64
      · have hsn : Hid (xorK (keyBlk key.data.toList) p (k + 1) = xorK (keyBlk key.data.toList) p k ++ [B8 ((keyBlk key.data.toList).getD k 0 ^^^ p)]) := xorK_succ _ p k (by rw [keyBlk_length]; exact hlt)
        by_cases hks : k < ks.size
        · have hat := key_at ks _ HK.out k hks
          rw [hat] at hsn
          have hxo : bits .xor .u8 (ks[k].toNat : Int) (p.toNat : Int) = ((ks[k].toNat ^^^ p.toNat : Nat) : Int) := by rw [b8_xor, UInt8.toNat_xor]
          go_wp2_with (at_builtin; refine wpList_append_own _ rfl _ _ 22 rfl w.heap.size 5 i0 (.int .u8 0) 1 1 Tryd.underlying22 hi hz0 hz1 hz2 rfl (by decide) _ _ _ rfl (hown.alloc _) ⟨wr.heap.size, 0, none⟩ 1 1 [.int .u8 ((ks[k].toNat ^^^ p.toNat : Nat) : Int)] rfl ?c1 ?c2 ?c3 ?c4 ?c5 ?c6 ?_)
          case c1 => rfl
          case c2 => exact fun j u hu => one_cellB hu
          case c3 => exact one_cell1 rfl
          case c4 => unfold maxLen; omega
          case c5 => omega
          case c6 => simp; omega
          intro v3 w3 hown3 hgrow _
          have hbel3 := (hbel.alloc (by omega) _).grown hgrow (by simp; omega) (fun j hj => (hlt2 j hj).1)
          replace hown3 : w3.ownsRow w.heap.size 5 1 v3 (k + 1) (xorK (keyBlk key.data.toList) p k ++ [B8 (ks[k] ^^^ p)]) := by unfold B8; rw [UInt8.toNat_xor]; exact hown3
          rw [← hsn.out] at hown3
          clear hown hlt2 hgrow hbel hat hsn hxo
          go_wp2
          go_roundw
          case rel => exact ⟨k + 1, by omega, by go_num, hown3, hbel3⟩
          case measure => simp [intOf]; omega
        · have hat := key_past ks _ HK.out k hks hlt
          rw [hat, UInt8.zero_xor] at hsn
          have hxo : bits .xor .u8 0 (p.toNat : Int) = (p.toNat : Int) := by
            have := b8_xor 0 p
            rw [UInt8.zero_xor] at this
            exact this
          go_wp2_with (at_builtin; refine wpList_append_own _ rfl _ _ 22 rfl w.heap.size 5 i0 (.int .u8 0) 1 1 Tryd.underlying22 hi hz0 hz1 hz2 rfl (by decide) _ _ _ rfl (hown.alloc _) ⟨wr.heap.size, 0, none⟩ 1 1 [.int .u8 (p.toNat : Int)] rfl ?c1 ?c2 ?c3 ?c4 ?c5 ?c6 ?_)
          case c1 => rfl
          case c2 => exact fun j u hu => one_cellB hu
          case c3 => exact one_cell1 rfl
          case c4 => unfold maxLen; omega
          case c5 => omega
          case c6 => simp; omega
          intro v3 w3 hown3 hgrow _
          have hbel3 := (hbel.alloc (by omega) _).grown hgrow (by simp; omega) (fun j hj => (hlt2 j hj).1)
          replace hown3 : w3.ownsRow w.heap.size 5 1 v3 (k + 1) (xorK (keyBlk key.data.toList) p k ++ [B8 p]) := hown3
          rw [← hsn.out] at hown3
          clear hown hlt2 hgrow hbel hat hsn hxo
          go_wp2
          go_roundw
          case rel => exact ⟨k + 1, by omega, by go_num, hown3, hbel3⟩
          case measure => simp [intOf]; omega
      · have hke : k = 64 := by omega
        subst hke
        have hta : Hid (xorK (keyBlk key.data.toList) p 64 = ((keyBlk key.data.toList).map (· ^^^ p)).map B8) := by
          have : xorK (keyBlk key.data.toList) p 64 = ((keyBlk key.data.toList).map (· ^^^ p)).map B8 := by
            unfold xorK; rw [List.take_of_length_le (by rw [keyBlk_length]; exact Nat.le_refl _)]
          exact this
        rw [hta.out] at hown
        have hl64 : Hid (((keyBlk key.data.toList).map (· ^^^ p)).length = 64) := by
          have : ((keyBlk key.data.toList).map (· ^^^ p)).length = 64 := by rw [List.length_map, keyBlk_length]
          exact this
        clear hta HK hlt2
        go_wp2
        go_ret
        exact ⟨_, rfl, by rw [hl64.out]; exact hown, hbel⟩
  · go_enter Tryd.func54, Tryd.ntmps54
    obtain ⟨ks, hks0⟩ : ∃ ks, Hid (key = ks) := ⟨_, rfl⟩
    have HK : Hid (keyBlk key.data.toList = ks.data.toList ++ SM.zeros (64 - ks.size)) := by
      have : keyBlk key.data.toList = ks.data.toList ++ SM.zeros (64 - ks.size) := by
        rw [← hks0.out]
        unfold keyBlk
        rw [if_neg (by rw [hkl.out]; exact h64), hkl.out]
      exact this
    have hks64 : ks.size ≤ 64 := by rw [← hks0.out]; omega
    have hbel1 := Below.refl w.heap.size w
    go_wp2
    rw [hks0.out]
    obtain ⟨i0, hi, hz0, hz1, hz2⟩ := info_parts Tryd.info8
    go_wp2
    go_loopw [6, 7] (PkRel (keyBlk key.data.toList) p w) (fun _ i _ => 64 - (intOf i).toNat)
    case atStart => exact ⟨0, by omega, rfl, World.ownsRow_nil _ _ _ _, hbel1⟩
    case round =>
      clear hbel1
      obtain ⟨k, hk, rfl, hown, hbel⟩ := hrel
      have hsz := hbel.size
      have hlt2 := hown.lt
      by_cases hlt : k < 64
      · have hsn : Hid (xorK (keyBlk key.data.toList) p (k + 1) = xorK (keyBlk key.data.toList) p k ++ [B8 ((keyBlk key.data.toList).getD k 0 ^^^ p)]) := xorK_succ _ p k (by rw [keyBlk_length]; exact hlt)
        by_cases hks : k < ks.size
        · have hat := key_at ks _ HK.out k hks
          rw [hat] at hsn
          have hxo : bits .xor .u8 (ks[k].toNat : Int) (p.toNat : Int) = ((ks[k].toNat ^^^ p.toNat : Nat) : Int) := by rw [b8_xor, UInt8.toNat_xor]
          go_wp2_with (at_builtin; refine wpList_append_own _ rfl _ _ 22 rfl w.heap.size 5 i0 (.int .u8 0) 1 1 Tryd.underlying22 hi hz0 hz1 hz2 rfl (by decide) _ _ _ rfl (hown.alloc _) ⟨wr.heap.size, 0, none⟩ 1 1 [.int .u8 ((ks[k].toNat ^^^ p.toNat : Nat) : Int)] rfl ?c1 ?c2 ?c3 ?c4 ?c5 ?c6 ?_)
          case c1 => rfl
          case c2 => exact fun j u hu => one_cellB hu
          case c3 => exact one_cell1 rfl
          case c4 => unfold maxLen; omega
          case c5 => omega
          case c6 => simp; omega
          intro v3 w3 hown3 hgrow _
          have hbel3 := (hbel.alloc (by omega) _).grown hgrow (by simp; omega) (fun j hj => (hlt2 j hj).1)
          replace hown3 : w3.ownsRow w.heap.size 5 1 v3 (k + 1) (xorK (keyBlk key.data.toList) p k ++ [B8 (ks[k] ^^^ p)]) := by unfold B8; rw [UInt8.toNat_xor]; exact hown3
          rw [← hsn.out] at hown3
          clear hown hlt2 hgrow hbel hat hsn hxo
          go_wp2
          go_roundw
          case rel => exact ⟨k + 1, by omega, by go_num, hown3, hbel3⟩
          case measure => simp [intOf]; omega
        · have hat := key_past ks _ HK.out k hks hlt
          rw [hat, UInt8.zero_xor] at hsn
          have hxo : bits .xor .u8 0 (p.toNat : Int) = (p.toNat : Int) := by
            have := b8_xor 0 p
            rw [UInt8.zero_xor] at this
            exact this
          go_wp2_with (at_builtin; refine wpList_append_own _ rfl _ _ 22 rfl w.heap.size 5 i0 (.int .u8 0) 1 1 Tryd.underlying22 hi hz0 hz1 hz2 rfl (by decide) _ _ _ rfl (hown.alloc _) ⟨wr.heap.size, 0, none⟩ 1 1 [.int .u8 (p.toNat : Int)] rfl ?c1 ?c2 ?c3 ?c4 ?c5 ?c6 ?_)
          case c1 => rfl
          case c2 => exact fun j u hu => one_cellB hu
          case c3 => exact one_cell1 rfl
          case c4 => unfold maxLen; omega
          case c5 => omega
          case c6 => simp; omega
          intro v3 w3 hown3 hgrow _
          have hbel3 := (hbel.alloc (by omega) _).grown hgrow (by simp; omega) (fun j hj => (hlt2 j hj).1)
          replace hown3 : w3.ownsRow w.heap.size 5 1 v3 (k + 1) (xorK (keyBlk key.data.toList) p k ++ [B8 p]) := hown3
          rw [← hsn.out] at hown3
          clear hown hlt2 hgrow hbel hat hsn hxo
          go_wp2
          go_roundw
          case rel => exact ⟨k + 1, by omega, by go_num, hown3, hbel3⟩
          case measure => simp [intOf]; omega
      · have hke : k = 64 := by omega
        subst hke
        have hta : Hid (xorK (keyBlk key.data.toList) p 64 = ((keyBlk key.data.toList).map (· ^^^ p)).map B8) := by
          have : xorK (keyBlk key.data.toList) p 64 = ((keyBlk key.data.toList).map (· ^^^ p)).map B8 := by
            unfold xorK; rw [List.take_of_length_le (by rw [keyBlk_length]; exact Nat.le_refl _)]
          exact this
        rw [hta.out] at hown
        have hl64 : Hid (((keyBlk key.data.toList).map (· ^^^ p)).length = 64) := by
          have : ((keyBlk key.data.toList).map (· ^^^ p)).length = 64 := by rw [List.length_map, keyBlk_length]
          exact this
        clear hta HK hlt2
        go_wp2
        go_ret
        exact ⟨_, rfl, by rw [hl64.out]; exact hown, hbel⟩

def blkX (key : ByteArray) (p : UInt8) : List UInt8 := (keyBlk key.data.toList).map (· ^^^ p)
theorem blkX_length (key : ByteArray) (p : UInt8) : (blkX key p).length = 64 := by unfold blkX; rw [List.length_map, keyBlk_length]
theorem mac_eq (key text : ByteArray) : mac key.data.toList text.data.toList = SM.sum (blkX key 92 ++ SM.sum (blkX key 54 ++ text.data.toList)) := rfl
theorem padKey_to (key : ByteArray) (p : UInt8) (pi : Int) (K : List UInt8) (w : World) (hp : pi = (p.toNat : Int)) (hK : Hid (blkX key p = K)) (hk : key.size ≤ 10000000) (HC : LayC w) :
    Calls Tryd.prog 54 #[.string key, .int .u8 pi] w (PutPost K w) := by
  subst hp; rw [← hK.out]; exact padKey_any key p w hk HC
theorem rsum_own (w1 : World) (base : Nat) (v : Value) (n : Nat) (l S : List UInt8) (hS : Unit → SM.sum l = S) (hown : w1.ownsRow base 5 1 v n (l.map B8)) (hn : n = l.length) (hl : l.length ≤ 100000000) (h0 : 0 < n) (HC : LayC w1) :
    Calls Tryd.prog 17 #[v] w1 fun e w' => e = .returned (.agg (S.map B8).toArray) ∧ Below w1.heap.size w1 w' := by
  obtain ⟨g2, c2, rfl, hcs2⟩ := own_some hown h0
  rw [← hS ()]
  exact rsum_any _ c2 n l w1 hn hl (fun j u hu => ⟨_, rfl, hcs2 j u hu⟩) HC
set_option maxRecDepth 100000 in
set_option maxHeartbeats 1600000 in
theorem rmac_any (key text : ByteArray) (M : List UInt8) (w : World) (hM : Unit → mac key.data.toList text.data.toList = M) (hk : key.size ≤ 10000000) (ht : text.size ≤ 10000000) (HC : LayC w) :
    Calls Tryd.prog 24 #[.string key, .string text] w fun e w' => e = .returned (.string ⟨M.toArray⟩) ∧ Below w.heap.size w w' := by
  obtain ⟨i0, hi, hz0, hz1, hz2⟩ := info_parts Tryd.info8
  obtain ⟨K1, hK1⟩ : ∃ K, Hid (blkX key 54 = K) := ⟨_, rfl⟩
  obtain ⟨K2, hK2⟩ : ∃ K, Hid (blkX key 92 = K) := ⟨_, rfl⟩
  have hl1 : Hid (K1.length = 64) := by rw [← hK1.out]; exact blkX_length _ _
  have hl2 : Hid (K2.length = 64) := by rw [← hK2.out]; exact blkX_length _ _
  obtain ⟨S1, hS1⟩ : ∃ S, (Unit → SM.sum (K1 ++ text.data.toList) = S) := ⟨_, fun _ => rfl⟩
  have hs1 : Hid (S1.length = 32) := by rw [← hS1 ()]; exact SM.sum_length _
  have hS2 : Unit → SM.sum (K2 ++ S1) = M := fun _ => by rw [← hM (), mac_eq, hK1.out, hK2.out, hS1 ()]
  have hml : Hid (M.length = 32) := by rw [← hS2 ()]; exact SM.sum_length _
  clear hM
  go_enter Tryd.func24, Tryd.ntmps24
  go_wp2_with fail
  (with_reducible refine (padKey_to key 54 54 K1 _ rfl hK1 hk HC).mono ?_)
  rintro e w1 ⟨v1, rfl, hown1, hb1⟩
  have hlt1 := hown1.lt
  have hsz := hb1.size
  rw [hl1.out] at hown1
  go_wp2_with (at_builtin; refine Lib.wpList_append_own_string _ rfl _ _ 22 9 rfl w.heap.size 5 i0 Tryd.underlying22 Tryd.underlying9 hi hz0 hz1 hz2 _ _ _ rfl hown1 text rfl ?c1 ?c2 ?c3 ?_)
  case c1 => unfold maxLen; omega
  case c2 => omega
  case c3 => omega
  intro v2 w2 hown2 hgrow _
  have hb2 := hb1.grown hgrow (by omega) (fun k hk => (hlt1 k hk).1)
  rw [strCells_B8, ← List.map_append] at hown2
  have HC2 := HC.next hb2
  have hsz2 := hb2.size
  clear hown1 hlt1 hgrow hb1 hsz
  go_wp2_with fail
  (with_reducible refine (padKey_to key 92 92 K2 _ rfl hK2 hk HC2).mono ?_)
  rintro e w3 ⟨v3, rfl, hown3, hb3⟩
  have hlt3 := hown3.lt
  rw [hl2.out] at hown3
  have hown2' := own_next hown2 hb3
  have HC3 := HC2.next hb3
  have hbel3 := below_join hb2 hb3
  have hsz3 := hb3.size
  clear hown2 HC2
  go_wp2_with fail
  (with_reducible refine (rsum_own _ _ _ _ (K1 ++ text.data.toList) S1 hS1 hown2' (by rw [List.length_append, hl1.out, bytes_size]) (by rw [List.length_append, hl1.out, bytes_size]; omega) (by omega) HC3).mono ?_)
  rintro e w4 ⟨rfl, hb4⟩
  have hown4 := own_next hown3 hb4
  have hbel4 := below_join hbel3 hb4
  have hk34 := below_join hb3 hb4
  have HC4 := HC3.next hb4
  clear hown3 hown2' HC3 hb4 hbel3
  go_wp2_with fail
  (with_reducible refine (bytes32_any S1 _ hs1.out).mono ?_)
  rintro e w5 ⟨rfl, hb5⟩
  have hown5 := own_next hown4 hb5
  have hbel5 := below_join hbel4 hb5
  have HC5 := HC4.next hb5
  have hlt5 := hown5.lt
  have hsz5 := hbel5.size
  have hsz25 := (below_join hk34 hb5).size
  have hss : (⟨S1.toArray⟩ : ByteArray).size = 32 := by rw [str_size, hs1.out]
  clear hown4 HC4 hb5 hbel4 hb3 hlt3
  go_wp2_with (at_builtin; refine Lib.wpList_append_own_string _ rfl _ _ 22 9 rfl w2.heap.size 5 i0 Tryd.underlying22 Tryd.underlying9 hi hz0 hz1 hz2 _ _ _ rfl hown5 ⟨S1.toArray⟩ rfl ?d1 ?d2 ?d3 ?_)
  case d1 => unfold maxLen; omega
  case d2 => omega
  case d3 => omega
  intro v6 w6 hown6 hgrow6 _
  have hb6 := hbel5.grown hgrow6 (by omega) (fun k hk => by have := (hlt5 k hk).1; omega)

  rw [strCells_B8, str_toList, ← List.map_append] at hown6
  have HC6 := HC.next hb6
  clear hown5 hlt5 hgrow6 hbel5 hsz5
  go_wp2_with fail
  (with_reducible refine (rsum_own _ _ _ _ (K2 ++ S1) M hS2 hown6 (by rw [List.length_append, hl2.out, hs1.out]) (by rw [List.length_append, hl2.out, hs1.out]; decide) (by decide) HC6).mono ?_)
  rintro e w7 ⟨rfl, hb7⟩
  have hbel7 := below_join hb6 hb7
  clear hown6 HC6 hb7 hb6
  go_wp2_with fail
  (with_reducible refine (bytes32_any M _ hml.out).mono ?_)
  rintro e w8 ⟨rfl, hb8⟩
  have hbel8 := below_join hbel7 hb8
  clear hb8
  go_wp2
  go_ret
  exact ⟨rfl, hbel8⟩
end Go.Proofs.YtnhnfdfjlagcjaaDoor
