/-
  Contracts of the walks over the reference's encodings: Int, Bytes, Ints, Strings, Digests. Conditions: an encoding has at most 10^9 bytes.
-/
import Derived.Test.YtkbmgkaopjjkoaaListRT
namespace Go.Proofs.Ytkbmgkaopjjkoaa
open Go.RowKit

theorem refLoop_end (Z : Nat) (hZ : Z < 128) : (Value.int .u8 (Z : Int)) = B8 (UInt8.ofNat Z) := by unfold B8; rw [WM.byte_lo hZ]

set_option maxRecDepth 100000 in
set_option maxHeartbeats 1600000 in
theorem refInt_any (n : Int) (w : World) (h1 : -9223372036854775808 ≤ n) (h2 : n ≤ 9223372036854775807) :
    Calls Try.prog 15 #[.int .i64 n] w (PutPost (WM.encI n) w) := by
  obtain ⟨i0, hi, hz0, hz1, hz2⟩ := info_parts Try.info8
  have hfl := WM.fold_lt h1 h2
  have hel : (WM.encI n).length ≤ 10 := WM.encN_le10 hfl
  by_cases hneg : n < 0
  · have hf : (WM.fold n : Int) = (-1 - n) * 2 + 1 := by unfold WM.fold; rw [if_pos hneg]; omega
    have HF := Lib.hid hf
    clear hf
    go_enter Try.func15, Try.ntmps15
    go_wp2_with fail
    go_loopw [4, 3] (AddRel w.heap.size 0 [] n w) (fun _ z _ => (intOf z).toNat)
    case atStart => exact ⟨WM.fold n, [], hfl, by rw [HF.out], rfl, by simpa using World.ownsRow_nil w w.heap.size 5 1, Below.refl _ _⟩
    case round =>
      obtain ⟨Z, pre, hZ, rfl, he, hownr, hbel⟩ := hrel
      have HE := Lib.hid he
      have hpl : pre.length ≤ 10 := by rw [he] at hel; simp at hel; omega
      clear he
      have hsz := hbel.size
      by_cases hlt : Z < 128
      · go_wp2_with (at_builtin; refine wpList_append_own _ rfl _ _ 28 rfl w.heap.size 5 i0 (.int .u8 0) 1 1 Try.underlying28 hi hz0 hz1 hz2 rfl (by decide) _ _ _ rfl (hownr.alloc _) ⟨wr.heap.size, 0, none⟩ 1 1 [.int .u8 (Z : Int)] rfl rfl ?c1 ?c2 ?c3 ?c4 ?c5 ?_)
        case c1 => exact fun j u hu => one_cell hu
        case c2 => intro u hu; simp at hu; subst hu; rfl
        case c3 => unfold maxLen; omega
        case c4 => omega
        case c5 => simp; omega
        intro v' w1 hown' hgrow _
        have hlt' := hownr.lt
        clear hownr
        go_wp2
        go_ret
        refine ⟨_, rfl, ?_, (hbel.alloc (by omega) _).grown hgrow (by simp; omega) (fun k hk => (hlt' k hk).1)⟩
        rw [HE.out, WM.encN_lo hlt]
        rw [refLoop_end Z hlt] at hown'
        simpa [Nat.add_assoc] using hown'
      · go_wp2_with (at_builtin; refine wpList_append_own _ rfl _ _ 28 rfl w.heap.size 5 i0 (.int .u8 0) 1 1 Try.underlying28 hi hz0 hz1 hz2 rfl (by decide) _ _ _ rfl (hownr.alloc _) ⟨wr.heap.size, 0, none⟩ 1 1 [.int .u8 ((Z : Int) % 128 + 128)] rfl rfl ?d1 ?d2 ?d3 ?d4 ?d5 ?_)
        case d1 => exact fun j u hu => one_cell hu
        case d2 => intro u hu; simp at hu; subst hu; rfl
        case d3 => unfold maxLen; omega
        case d4 => omega
        case d5 => simp; omega
        intro v' w1 hown' hgrow _
        have hlt' := hownr.lt
        clear hownr
        go_wp2
        go_roundw
        case rel =>
          refine ⟨Z / 128, pre ++ [UInt8.ofNat (Z % 128 + 128)], by omega, by go_num, ?_, ?_, (hbel.alloc (by omega) _).grown hgrow (by simp; omega) (fun k hk => (hlt' k hk).1)⟩
          · rw [HE.out, WM.encN_hi hlt]; simp
          · have e : (Value.int .u8 ((Z : Int) % 128 + 128)) = B8 (UInt8.ofNat (Z % 128 + 128)) := by unfold B8; rw [WM.byte_hi]; rfl
            rw [e] at hown'
            simpa [Nat.add_assoc] using hown'
        case measure => simp [intOf]; omega
  · have hf : (WM.fold n : Int) = n * 2 := by unfold WM.fold; rw [if_neg hneg]; omega
    have HF := Lib.hid hf
    clear hf
    go_enter Try.func15, Try.ntmps15
    go_wp2_with fail
    go_loopw [4, 3] (AddRel w.heap.size 0 [] n w) (fun _ z _ => (intOf z).toNat)
    case atStart => exact ⟨WM.fold n, [], hfl, by rw [HF.out], rfl, by simpa using World.ownsRow_nil w w.heap.size 5 1, Below.refl _ _⟩
    case round =>
      obtain ⟨Z, pre, hZ, rfl, he, hownr, hbel⟩ := hrel
      have HE := Lib.hid he
      have hpl : pre.length ≤ 10 := by rw [he] at hel; simp at hel; omega
      clear he
      have hsz := hbel.size
      by_cases hlt : Z < 128
      · go_wp2_with (at_builtin; refine wpList_append_own _ rfl _ _ 28 rfl w.heap.size 5 i0 (.int .u8 0) 1 1 Try.underlying28 hi hz0 hz1 hz2 rfl (by decide) _ _ _ rfl (hownr.alloc _) ⟨wr.heap.size, 0, none⟩ 1 1 [.int .u8 (Z : Int)] rfl rfl ?f1 ?f2 ?f3 ?f4 ?f5 ?_)
        case f1 => exact fun j u hu => one_cell hu
        case f2 => intro u hu; simp at hu; subst hu; rfl
        case f3 => unfold maxLen; omega
        case f4 => omega
        case f5 => simp; omega
        intro v' w1 hown' hgrow _
        have hlt' := hownr.lt
        clear hownr
        go_wp2
        go_ret
        refine ⟨_, rfl, ?_, (hbel.alloc (by omega) _).grown hgrow (by simp; omega) (fun k hk => (hlt' k hk).1)⟩
        rw [HE.out, WM.encN_lo hlt]
        rw [refLoop_end Z hlt] at hown'
        simpa [Nat.add_assoc] using hown'
      · go_wp2_with (at_builtin; refine wpList_append_own _ rfl _ _ 28 rfl w.heap.size 5 i0 (.int .u8 0) 1 1 Try.underlying28 hi hz0 hz1 hz2 rfl (by decide) _ _ _ rfl (hownr.alloc _) ⟨wr.heap.size, 0, none⟩ 1 1 [.int .u8 ((Z : Int) % 128 + 128)] rfl rfl ?k1 ?k2 ?k3 ?k4 ?k5 ?_)
        case k1 => exact fun j u hu => one_cell hu
        case k2 => intro u hu; simp at hu; subst hu; rfl
        case k3 => unfold maxLen; omega
        case k4 => omega
        case k5 => simp; omega
        intro v' w1 hown' hgrow _
        have hlt' := hownr.lt
        clear hownr
        go_wp2
        go_roundw
        case rel =>
          refine ⟨Z / 128, pre ++ [UInt8.ofNat (Z % 128 + 128)], by omega, by go_num, ?_, ?_, (hbel.alloc (by omega) _).grown hgrow (by simp; omega) (fun k hk => (hlt' k hk).1)⟩
          · rw [HE.out, WM.encN_hi hlt]; simp
          · have e : (Value.int .u8 ((Z : Int) % 128 + 128)) = B8 (UInt8.ofNat (Z % 128 + 128)) := by unfold B8; rw [WM.byte_hi]; rfl
            rw [e] at hown'
            simpa [Nat.add_assoc] using hown'
        case measure => simp [intOf]; omega

set_option maxRecDepth 100000 in
set_option maxHeartbeats 800000 in
theorem refBytes_any (s : ByteArray) (w : World) (hs : s.size ≤ 1000000000) :
    Calls Try.prog 17 #[.string s] w (PutPost (WM.encB s.data.toList) w) := by
  obtain ⟨i0, hi, hz0, hz1, hz2⟩ := info_parts Try.info8
  have hel : (WM.encI (s.size : Int)).length ≤ 10 := WM.encI_le ⟨by omega, by omega⟩
  go_enter Try.func17, Try.ntmps17
  go_wp2_with fail
  refine (refInt_any (s.size : Int) _ (by omega) (by omega)).mono ?_
  rintro e w1 ⟨v1, rfl, hown1, hb1⟩
  have hlt1 := hown1.lt
  have hsz := hb1.size
  go_wp2_with (at_builtin; refine Lib.wpList_append_own_string _ rfl _ _ 28 9 rfl w.heap.size 5 i0 Try.underlying28 Try.underlying9 hi hz0 hz1 hz2 _ _ _ rfl hown1 s rfl ?c1 ?c2 ?c3 ?_)
  case c1 => unfold maxLen; omega
  case c2 => omega
  case c3 => omega
  intro v2 w2 hown2 hgrow _
  clear hown1
  go_wp2
  go_ret
  refine ⟨_, rfl, ?_, hb1.grown hgrow (by omega) (fun k hk => (hlt1 k hk).1)⟩
  unfold WM.encB
  rw [bytes_size, List.length_append, bytes_size, List.map_append, ← strCells_B8]
  exact hown2

set_option maxRecDepth 100000 in
set_option maxHeartbeats 800000 in
theorem refInts_any (A : Option Addr) (cap : Nat) (xs : List Int) (w : World) (hok : ∀ x ∈ xs, WM.okI x) (hl : (WM.encAll WM.encI xs).length ≤ 1000000000) (hn : xs.length ≤ 1000000000) (hh : Holds w A (xs.map (Value.int .i64))) :
    Calls Try.prog 19 #[.slice A xs.length cap] w (PutPost (WM.encAll WM.encI xs) w) := by
  obtain ⟨i0, hi, hz0, hz1, hz2⟩ := info_parts Try.info8
  go_enter Try.func19, Try.ntmps19
  go_wp2_with fail
  refine (refInt_any (xs.length : Int) _ (by omega) (by omega)).mono ?_
  rintro e w1 ⟨v1, rfl, hown1, hb1⟩
  go_wp2_with fail
  go_loopw [3, 4] (PutRel WM.encI xs w) (fun _ i _ => xs.length - (intOf i).toNat)
  case atStart => exact ⟨0, by omega, rfl, by rw [partI_zero]; exact hown1, hb1⟩
  case round =>
    obtain ⟨k, hk, rfl, hown, hb⟩ := hrel
    have hsz := hb.size
    by_cases hlt : k < xs.length
    · obtain ⟨ad, rfl, hcell⟩ := (hh.keep (Keeps.of hb)).at_ (k := k) (by simpa using hlt)
      rw [List.getElem_map] at hcell
      have hx := hok xs[k] (List.getElem_mem hlt)
      have HP := Lib.hid (partI_succ xs.length WM.encI xs k hlt)
      have hpl := partI_le WM.encI xs k
      generalize xs[k] = x at hcell hx HP
      have hel := WM.encI_le hx
      have hep := WM.encI_pos x
      go_wp2_with fail
      refine (refInt_any x _ hx.1 hx.2).mono ?_
      rintro e w2 ⟨v2, rfl, hown2, hb2⟩
      have hown3 := own_keep hown hb2
      have hb3 := hb.trans (hb2.mono hsz)
      have hlt3 := hown3.lt
      have hsz3 := hb3.size
      obtain ⟨A2, c2, rfl, hc2, H2⟩ := holds_own hown2
      obtain ⟨ad2, rfl⟩ := H2.some_ hep
      clear hown hown2 hcell
      go_wp2_with (at_builtin; refine wpList_append_own _ rfl _ _ 28 rfl w.heap.size 5 i0 (.int .u8 0) 1 1 Try.underlying28 hi hz0 hz1 hz2 rfl (by decide) _ _ _ rfl hown3 ad2 (WM.encI x).length c2 ((WM.encI x).map B8) rfl ?n1 H2.cells (B8_one _) ?c3 ?c4 ?c5 ?_)
      case n1 => rw [List.length_map, Nat.mul_one]
      case c3 => unfold maxLen; omega
      case c4 => omega
      case c5 => omega
      intro v4 w4 hown4 hgrow _
      have hb4 := hb3.grown hgrow hsz3 (fun k hk => (hlt3 k hk).1)
      clear hown3 hgrow
      go_wp2_with fail
      go_roundw
      case rel => exact ⟨k + 1, by omega, by go_num, by rw [HP.out, List.length_append, List.map_append]; exact hown4, hb4⟩
      case measure => simp [intOf]; omega
    · go_wp2_with fail
      go_ret
      have hkn : k = xs.length := by omega
      subst hkn
      rw [partI_all] at hown
      exact ⟨_, rfl, hown, hb⟩

set_option maxRecDepth 100000 in
set_option maxHeartbeats 800000 in
theorem refStrings_any (A : Option Addr) (cap : Nat) (xs : List ByteArray) (w : World) (hl : (WM.encAll WM.encB (strs xs)).length ≤ 1000000000) (hn : xs.length ≤ 1000000000) (hh : Holds w A (xs.map Value.string)) :
    Calls Try.prog 21 #[.slice A xs.length cap] w (PutPost (WM.encAll WM.encB (strs xs)) w) := by
  obtain ⟨i0, hi, hz0, hz1, hz2⟩ := info_parts Try.info8
  have HSL := Lib.hid (strs_length xs)
  go_enter Try.func21, Try.ntmps21
  go_wp2_with fail
  refine (refInt_any (xs.length : Int) _ (by omega) (by omega)).mono ?_
  rintro e w1 ⟨v1, rfl, hown1, hb1⟩
  go_wp2_with fail
  go_loopw [3, 4] (PutRel WM.encB (strs xs) w) (fun _ i _ => xs.length - (intOf i).toNat)
  case atStart => exact ⟨0, by omega, rfl, by rw [partI_zero, HSL.out]; exact hown1, hb1⟩
  case round =>
    obtain ⟨k, hk, rfl, hown, hb⟩ := hrel
    have hk' : k ≤ xs.length := by rw [HSL.out] at hk; exact hk
    have hsz := hb.size
    clear hk
    by_cases hlt : k < xs.length
    · obtain ⟨ad, rfl, hcell⟩ := (hh.keep (Keeps.of hb)).at_ (k := k) (by simpa using hlt)
      rw [List.getElem_map] at hcell
      have hlt' : k < (strs xs).length := by rw [HSL.out]; exact hlt
      have HP := Lib.hid (partI_succ (strs xs).length WM.encB (strs xs) k hlt')
      have hpl := partI_le WM.encB (strs xs) k
      have hel0 := enc_le WM.encB (strs xs) k hlt'
      have hx : xs[k].size ≤ 1000000000 := by
        have h2 : (WM.encB (strs xs)[k]).length = (WM.encI ((strs xs)[k].length : Int)).length + (strs xs)[k].length := by unfold WM.encB; rw [List.length_append]
        have h3 : (strs xs)[k].length = xs[k].size := by rw [strs_get xs k hlt' hlt]; exact bytes_size _
        unfold WM.encAll at hl
        rw [List.length_append] at hl
        omega
      have he : WM.encB (strs xs)[k] = WM.encB xs[k].data.toList := by rw [strs_get xs k hlt' hlt]
      rw [he] at HP hel0
      clear he hlt'
      generalize xs[k] = x at hcell hx HP hel0
      have hel : (WM.encB x.data.toList).length ≤ 1000000000 := by
        unfold WM.encAll at hl
        rw [List.length_append] at hl
        omega
      have hep := WM.encB_pos x.data.toList
      clear hel0
      go_wp2_with fail
      refine (refBytes_any x _ hx).mono ?_
      rintro e w2 ⟨v2, rfl, hown2, hb2⟩
      have hown3 := own_keep hown hb2
      have hb3 := hb.trans (hb2.mono hsz)
      have hlt3 := hown3.lt
      have hsz3 := hb3.size
      obtain ⟨A2, c2, rfl, hc2, H2⟩ := holds_own hown2
      obtain ⟨ad2, rfl⟩ := H2.some_ hep
      clear hown hown2 hcell
      go_wp2_with (at_builtin; refine wpList_append_own _ rfl _ _ 28 rfl w.heap.size 5 i0 (.int .u8 0) 1 1 Try.underlying28 hi hz0 hz1 hz2 rfl (by decide) _ _ _ rfl hown3 ad2 (WM.encB x.data.toList).length c2 ((WM.encB x.data.toList).map B8) rfl ?n1 H2.cells (B8_one _) ?c3 ?c4 ?c5 ?_)
      case n1 => rw [List.length_map, Nat.mul_one]
      case c3 => unfold maxLen; omega
      case c4 => omega
      case c5 => omega
      intro v4 w4 hown4 hgrow _
      have hb4 := hb3.grown hgrow hsz3 (fun k hk => (hlt3 k hk).1)
      clear hown3 hgrow
      go_wp2_with fail
      go_roundw
      case rel => exact ⟨k + 1, by rw [HSL.out]; omega, by go_num, by rw [HP.out, List.length_append, List.map_append]; exact hown4, hb4⟩
      case measure => simp [intOf]; omega
    · go_wp2_with fail
      go_ret
      have hkn : k = (strs xs).length := by rw [HSL.out]; omega
      subst hkn
      rw [partI_all] at hown
      exact ⟨_, rfl, hown, hb⟩

set_option maxRecDepth 100000 in
set_option maxHeartbeats 800000 in
theorem refDigests_any (A : Option Addr) (cap : Nat) (xs : List (List UInt8)) (w : World) (hok : ∀ x ∈ xs, WM.okD x) (hl : (WM.encAll (fun d => d) xs).length ≤ 1000000000) (hn : xs.length ≤ 1000000000) (hh : Holds w A (digCells xs)) :
    Calls Try.prog 23 #[.slice A xs.length cap] w (PutPost (WM.encAll (fun d => d) xs) w) := by
  obtain ⟨i0, hi, hz0, hz1, hz2⟩ := info_parts Try.info8
  go_enter Try.func23, Try.ntmps23
  go_wp2_with fail
  refine (refInt_any (xs.length : Int) _ (by omega) (by omega)).mono ?_
  rintro e w1 ⟨v1, rfl, hown1, hb1⟩
  go_wp2_with fail
  go_loopw [3, 4] (PutRel (fun d => d) xs w) (fun _ i _ => xs.length - (intOf i).toNat)
  case atStart => exact ⟨0, by omega, rfl, by rw [partI_zero]; exact hown1, hb1⟩
  case round =>
    obtain ⟨k, hk, rfl, hown, hb⟩ := hrel
    have hsz := hb.size
    by_cases hlt : k < xs.length
    · have hpl := partI_le (fun d => d) xs k
      have HP := Lib.hid (partI_succ xs.length (fun d => d) xs k hlt)
      obtain ⟨ad, rfl, hc⟩ := dig_holds (hh.keep (Keeps.of hb)) hok hlt
      have hd := hok xs[k] (List.getElem_mem hlt)
      generalize xs[k] = d at hc hd HP
      have HC := Lib.hid hc
      have HD := Lib.hid hd
      have hlt3 := hown.lt
      clear hc hd
      go_wp2_with (at_builtin; refine wpList_append_own _ rfl _ _ 28 rfl w.heap.size 5 i0 (.int .u8 0) 1 1 Try.underlying28 hi hz0 hz1 hz2 rfl (by decide) _ _ _ rfl hown (ad.add (k * 16)) 16 16 (d.map B8) rfl ?n1 HC.out (B8_one _) ?c3 ?c4 ?c5 ?_)
      case n1 => rw [List.length_map]; exact HD.out
      case c3 => unfold maxLen; omega
      case c4 => omega
      case c5 => omega
      intro v4 w4 hown4 hgrow _
      have hb4 := hb.grown hgrow hsz (fun k hk => (hlt3 k hk).1)
      clear hown hgrow
      go_wp2_with fail
      go_roundw
      case rel => exact ⟨k + 1, by omega, by go_num, by rw [HP.out, List.length_append, List.map_append, HD.out]; exact hown4, hb4⟩
      case measure => simp [intOf]; omega
    · go_wp2_with fail
      go_ret
      have hkn : k = xs.length := by omega
      subst hkn
      rw [partI_all] at hown
      exact ⟨_, rfl, hown, hb⟩
end Go.Proofs.Ytkbmgkaopjjkoaa
