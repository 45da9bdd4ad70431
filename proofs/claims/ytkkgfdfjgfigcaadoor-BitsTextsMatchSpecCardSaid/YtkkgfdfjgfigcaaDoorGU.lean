/-
  Contracts of the functions that the statement calls, part 21 of 25 (merged texts: Mb, Mc, Md, Ua, Ub). Conditions: as the head of each part says.
-/
import Derived.Test.YtkkgfdfjgfigcaaDoorGS
import Derived.Test.YtkkgfdfjgfigcaaDoorGT
import Derived.Shelf.Strings.Builder1
import Derived.Test.YtkkgfdfjgfigcaaDoorGM
import Derived.Shelf.Small.Strs
import Derived.Test.YtkkgfdfjgfigcaaDoorGH

/-
  The library's strings.Builder at this program; contracts of the walks over wordText and Text. Conditions: a right pattern.
-/
namespace Go.Proofs.YtkkgfdfjgfigcaaDoor
set_option linter.unusedVariables false
set_option linter.unusedSimpArgs false
open Go.RowKit Go.Shelf

def Tryd.bwriteA_ren : Ren := ⟨fun | 166 => 93 | 240 => 159 | 276 => 215 | n => n, fun | 20 => 20 | 37 => 100 | 70 => 99 | 72 => 102 | 75 => 104 | 80 => 108 | 164 => 190 | n => n, fun | n => n⟩
theorem Tryd.bwriteA : Lays.n166 Tryd.prog Tryd.bwriteA_ren where
  mixed := by kernel_rfl
  f166 := Tryd.func93.trans (congrArg some (by kernel_rfl))
  f240 := Tryd.func159.trans (congrArg some (by kernel_rfl))
  f276 := Tryd.func215.trans (congrArg some (by kernel_rfl))
  t0 := by first | exact Tryd.underlying0 | kernel_rfl
  a0 := by first | exact Tryd.isAgg0 | exact fun w => by kernel_rfl
  z0 := by first | exact Tryd.sizeOf0 | exact fun w => by kernel_rfl
  v0 := by first | exact Tryd.zeroValue0 | exact fun w => by kernel_rfl
  t3 := by first | exact Tryd.underlying3 | kernel_rfl
  a3 := by first | exact Tryd.isAgg3 | exact fun w => by kernel_rfl
  z3 := by first | exact Tryd.sizeOf3 | exact fun w => by kernel_rfl
  v3 := by first | exact Tryd.zeroValue3 | exact fun w => by kernel_rfl
  t4 := by first | exact Tryd.underlying4 | kernel_rfl
  a4 := by first | exact Tryd.isAgg4 | exact fun w => by kernel_rfl
  z4 := by first | exact Tryd.sizeOf4 | exact fun w => by kernel_rfl
  v4 := by first | exact Tryd.zeroValue4 | exact fun w => by kernel_rfl
  t9 := by first | exact Tryd.underlying9 | kernel_rfl
  a9 := by first | exact Tryd.isAgg9 | exact fun w => by kernel_rfl
  z9 := by first | exact Tryd.sizeOf9 | exact fun w => by kernel_rfl
  v9 := by first | exact Tryd.zeroValue9 | exact fun w => by kernel_rfl
  t20 := by first | exact Tryd.underlying20 | kernel_rfl
  a20 := by first | exact Tryd.isAgg20 | exact fun w => by kernel_rfl
  z20 := by first | exact Tryd.sizeOf20 | exact fun w => by kernel_rfl
  v20 := by first | exact Tryd.zeroValue20 | exact fun w => by kernel_rfl
  t37 := by first | exact Tryd.underlying100 | kernel_rfl
  a37 := by first | exact Tryd.isAgg100 | exact fun w => by kernel_rfl
  z37 := by first | exact Tryd.sizeOf100 | exact fun w => by kernel_rfl
  v37 := by first | exact Tryd.zeroValue100 | exact fun w => by kernel_rfl
  t70 := by first | exact Tryd.underlying99 | kernel_rfl
  a70 := by first | exact Tryd.isAgg99 | exact fun w => by kernel_rfl
  z70 := by first | exact Tryd.sizeOf99 | exact fun w => by kernel_rfl
  v70 := by first | exact Tryd.zeroValue99 | exact fun w => by kernel_rfl
  t72 := by first | exact Tryd.underlying102 | kernel_rfl
  a72 := by first | exact Tryd.isAgg102 | exact fun w => by kernel_rfl
  z72 := by first | exact Tryd.sizeOf102 | exact fun w => by kernel_rfl
  v72 := by first | exact Tryd.zeroValue102 | exact fun w => by kernel_rfl
  t75 := by first | exact Tryd.underlying104 | kernel_rfl
  a75 := by first | exact Tryd.isAgg104 | exact fun w => by kernel_rfl
  z75 := by first | exact Tryd.sizeOf104 | exact fun w => by kernel_rfl
  v75 := by first | exact Tryd.zeroValue104 | exact fun w => by kernel_rfl
  t164 := by first | exact Tryd.underlying190 | kernel_rfl
  a164 := by first | exact Tryd.isAgg190 | exact fun w => by kernel_rfl
  z164 := by first | exact Tryd.sizeOf190 | exact fun w => by kernel_rfl
  v164 := by first | exact Tryd.zeroValue190 | exact fun w => by kernel_rfl
theorem Tryd.bwriteX : Builder.Extra Tryd.prog Tryd.bwriteA_ren where
  sizeBuilder := by kernel_rfl
  liesBuilder := by kernel_rfl
  t5 := Tryd.underlying5
  a5 := by first | exact Tryd.isAgg5 | exact fun w => by kernel_rfl
  z5 := by first | exact Tryd.sizeOf5 | exact fun w => by kernel_rfl
  v5 := by first | exact Tryd.zeroValue5 | exact fun w => by kernel_rfl
  infoByte := by kernel_rfl
  cellsByte := by kernel_rfl
  sizeByte := by kernel_rfl
  neB5 := by decide
theorem Tryd.bstringX : Builder.Extra Tryd.prog Tryd.bstringA_ren where
  sizeBuilder := by kernel_rfl
  liesBuilder := by kernel_rfl
  t5 := Tryd.bwriteX.t5
  a5 := Tryd.bwriteX.a5
  z5 := Tryd.bwriteX.z5
  v5 := Tryd.bwriteX.v5
  infoByte := by kernel_rfl
  cellsByte := by kernel_rfl
  sizeByte := by kernel_rfl
  neB5 := by decide
theorem write_str (B b : Nat) (bs : List Value) (s : ByteArray) (w : World) (h : Lib.IsBuilder 102 5 B b bs w) (hlen : bs.length + s.size ≤ 1000000) (hBw : B ≤ w.heap.size) :
    Calls Tryd.prog 93 #[.pointer (some ⟨b, 0, none⟩), .string s] w fun e w' => e = .returned (.tuple #[.int .i64 s.size, .nilIface]) ∧ Lib.BuilderAt 102 5 B b (.pointer (some ⟨b, 0, none⟩)) (bs ++ s.data.toList.map B8) w' ∧ Below B w w' :=
  Any.Builder_WriteString Tryd.bwriteA Tryd.bwriteX B b bs s w h (by omega) hBw
theorem text_str (B b : Nat) (l : List UInt8) (w : World) (h : Lib.IsBuilder 102 5 B b (l.map B8) w) (hBw : B ≤ w.heap.size) :
    Calls Tryd.prog 95 #[.pointer (some ⟨b, 0, none⟩)] w fun e w' => e = .returned (.string ⟨l.toArray⟩) ∧ Below B w w' :=
  Any.Builder_String_any Tryd.bstringA Tryd.bstringX B b l w h hBw
theorem builder_next {T e : TypeId} {B b : Nat} {bs : List Value} {w w' : World} (h : Lib.IsBuilder T e B b bs w) (hb : Below w.heap.size w w') (hl : b < w.heap.size) : Lib.IsBuilder T e B b bs w' := by
  rcases h with ⟨h1, v, hk, hown, hne⟩ | ⟨h1, v, hk, hown, hne⟩
  · exact .inl ⟨h1, v, (hb.block b hl).trans hk, own_keep hown (fun g hg => hb.block g (hown.lt g hg).2), hne⟩
  · exact .inr ⟨h1, v, (hb.block b hl).trans hk, own_keep hown (fun g hg => hb.block g (hown.lt g hg).2), hne⟩
/-- The text of a word. -/
def wordT (m b : Nat) : List UInt8 := if m = 0 then [42] else if m = 65535 then hexL b else hexL b ++ 47 :: hexL m
set_option maxRecDepth 100000 in
set_option maxHeartbeats 1600000 in
theorem wordText_any (m b : Nat) (w : World) (hm : m < 65536) (hb : b < 65536) :
    Calls Tryd.prog 94 #[.int .i64 (m : Int), .int .i64 (b : Int)] w fun e w' => e = .returned (.string ⟨(wordT m b).toArray⟩) ∧ Below w.heap.size w w' := by
  by_cases h0 : m = 0
  · subst h0
    have e : wordT 0 b = [42] := rfl
    rw [e]
    go_enter Tryd.func94, Tryd.ntmps94
    go_wp2
    go_ret
    exact ⟨rfl, Below.refl _ _⟩
  · have h0i : ¬ ((m : Int) = 0) := by omega
    by_cases h1 : m = 65535
    · subst h1
      have e : wordT 65535 b = hexL b := rfl
      rw [e]
      go_enter Tryd.func94, Tryd.ntmps94
      go_wp2_with fail
      (with_reducible refine (hex_any b _ hb).mono ?_)
      rintro e w1 ⟨rfl, hb1⟩
      go_wp2
      go_ret
      exact ⟨rfl, hb1⟩
    · have h1i : ¬ ((m : Int) = 65535) := by omega
      have e : wordT m b = hexL b ++ 47 :: hexL m := by unfold wordT; rw [if_neg h0, if_neg h1]
      rw [e]
      clear h0 h1 e
      go_enter Tryd.func94, Tryd.ntmps94
      go_wp2_with fail
      (with_reducible refine (hex_any b _ hb).mono ?_)
      rintro e w1 ⟨rfl, hb1⟩
      go_wp2_with fail
      (with_reducible refine (hex_any m _ hm).mono ?_)
      rintro e w2 ⟨rfl, hb2⟩
      have hb2' := below_join hb1 hb2
      go_wp2
      go_ret
      exact ⟨rfl, hb2'⟩
end Go.Proofs.YtkkgfdfjgfigcaaDoor

/-
  Contract of the walk over Text. Conditions: none.
-/
namespace Go.Proofs.YtkkgfdfjgfigcaaDoor
set_option linter.unusedVariables false
set_option linter.unusedSimpArgs false
open Go.RowKit Go.Shelf

/-- The text of a pattern's first words. -/
def textTo (p : Pat) : Nat → List UInt8
  | 0 => []
  | k + 1 => (textTo p k ++ (if k = 0 then [] else [32])) ++ wordT (word p.m k) (word p.b k)
theorem hexL_length (x : Nat) : (hexL x).length = 4 := rfl
theorem wordT_length (m b : Nat) : (wordT m b).length ≤ 9 := by
  unfold wordT
  split
  · show 1 ≤ 9; omega
  · split
    · rw [hexL_length]; omega
    · rw [List.length_append, List.length_cons, hexL_length, hexL_length]
      omega
theorem textTo_length (p : Pat) : ∀ k, (textTo p k).length ≤ 10 * k
  | 0 => Nat.le_refl _
  | k + 1 => by
    have h := textTo_length p k
    have h2 := wordT_length (word p.m k) (word p.b k)
    unfold textTo
    rw [List.length_append, List.length_append]
    split
    · rw [List.length_nil]; omega
    · show _ + 1 + _ ≤ _; omega
def TxRel (p : Pat) (gp gb : Nat) (w : World) (i : Value) (wr : World) : Prop :=
  ∃ k : Nat, k ≤ 10 ∧ i = .int .i64 (k : Int) ∧ Blk wr gp 25 p.cells ∧ Lib.IsBuilder 102 5 gb gb ((textTo p k).map B8) wr ∧ gb < wr.heap.size ∧ Below w.heap.size w wr
theorem Tryd.zeroBl : (Tryd.prog.info? 102).map (·.zero) = some (some (.agg #[.pointer none, .slice none 0 0])) := by kernel_rfl
set_option maxRecDepth 100000 in
set_option maxHeartbeats 1600000 in
theorem text_any (p : Pat) (w : World) :
    Calls Tryd.prog 18 #[.agg p.cells.toArray] w fun e w' => e = .returned (.string ⟨(textTo p 10).toArray⟩) ∧ Below w.heap.size w w' := by
  go_enter Tryd.func18, Tryd.ntmps18
  go_wp2_with (with_reducible refine wpList_box (o := ⟨some 1, .box 25 (.tmp 0), _, _, _, _⟩) ?g1 25 (.tmp 0) ?o1 (.agg p.cells.toArray) p.cells ?x1 ?c1 ?_)
  try (case g1 => rfl)
  try (case o1 => rfl)
  try (case x1 => rfl)
  try (case c1 => rfl)
  intro gp w1 hgp hs1 hb1 hP1
  have hlp : w.heap.size ≤ gp := Nat.le_of_eq hgp.out.symm
  have hbe1 : Below w.heap.size w w1 := hb1.mono hlp
  clear hb1 hs1 hgp
  go_wp2_with (with_reducible refine wpList_alloc (o := ⟨some 3, .alloc 102, _, _, _, _⟩) (by with_unfolding_all rfl) 102 (by with_unfolding_all rfl) (.agg #[.pointer none, .slice none 0 0]) [.pointer none, .slice none 0 0] (by exact Tryd.zeroBl) (by with_unfolding_all rfl) ?_)
  intro gb w2 hgb hs2 hb2 hB2
  have hb2' := hb2.mono (Nat.le_of_eq hgb.out.symm)
  have hgpb : gp < gb := by have := hP1.lt; have := hgb.out; omega
  have hwgb : w.heap.size ≤ gb := by omega
  have hP2 := hP1.next hb2' hP1.lt
  have hbe2 := below_join hbe1 hb2'
  have hl2 := hB2.lt
  have hI2 : Lib.IsBuilder 102 5 gb gb ((textTo p 0).map B8) w2 := .inl ⟨Nat.le_refl _, .slice none 0 0, hB2, World.ownsRow_nil _ _ _ _, by intro h; cases h⟩
  clear hb2 hb2' hs2 hgb hP1 hbe1 hB2
  go_wp2_with (with_reducible refine wpList_get (o := ⟨some 7, .load 23 (.tmp 6), _, _, _, _⟩) (by with_unfolding_all rfl) 23 (.tmp 6) (by with_unfolding_all rfl) gp 0 (by with_unfolding_all rfl) hP2 (H p.m) (cells_take_m p) _ (by exact Tryd.underlying23) (by with_unfolding_all rfl) (by rw [H_length]; exact Tryd.szH) ?_)
  go_wp2
  go_loopw [8] (TxRel p gp gb w) (fun i _ => 10 - (intOf i).toNat)
  case atStart => exact ⟨0, by omega, rfl, hP2, hI2, hl2, hbe2⟩
  case round =>
    clear hP2 hI2 hl2 hbe2
    obtain ⟨k, hk, rfl, hP, hI, hl, hbe⟩ := hrel
    by_cases hlt : k < 10
    · obtain ⟨m, hme⟩ : ∃ m, Hid (word p.m k = m) := ⟨_, rfl⟩
      obtain ⟨b, hbe'⟩ : ∃ b, Hid (word p.b k = b) := ⟨_, rfl⟩
      have hm : m < 65536 := by rw [← hme.out]; exact word_lt _ _
      have hb : b < 65536 := by rw [← hbe'.out]; exact word_lt _ _
      have hcm := H_get p.m hlt
      have hcb := cells_b p hlt
      rw [hme.out] at hcm
      rw [hbe'.out] at hcb
      have HCM := Lib.hid hcm
      have hk0 : (0 : Int) ≤ (k : Int) := by omega
      have hk10 : (k : Int) < 10 := by omega
      have hTl := textTo_length p k
      have hWl := wordT_length m b
      have HLW : Hid ((textTo p k).length + 1 + (⟨(wordT m b).toArray⟩ : ByteArray).size ≤ 1000000) := by
        have : (textTo p k).length + 1 + (⟨(wordT m b).toArray⟩ : ByteArray).size ≤ 1000000 := by
          rw [show (⟨(wordT m b).toArray⟩ : ByteArray).size = (wordT m b).length by simp [ByteArray.size]]
          omega
        exact this
      clear hcm
      by_cases h0 : k = 0
      · have hkp : ¬ ((k : Int) > 0) := by omega
        have hst0 : ((textTo p k).map B8 ++ (⟨(wordT m b).toArray⟩ : ByteArray).data.toList.map B8) = (textTo p (k + 1)).map B8 := by
          rw [← hme.out, ← hbe'.out]
          show _ = ((textTo p k ++ (if k = 0 then [] else [32])) ++ wordT (word p.m k) (word p.b k)).map B8
          rw [if_pos h0]
          simp
        have hlen0 : ((textTo p k).map B8).length = (textTo p k).length := List.length_map _
        have HLW : Hid ((textTo p k).length + (⟨(wordT m b).toArray⟩ : ByteArray).size ≤ 1000000) := by
          have : (textTo p k).length + (⟨(wordT m b).toArray⟩ : ByteArray).size ≤ 1000000 := by have := HLW.out; omega
          exact this
        have hP0 := hP
        have hI0 := hI
        have hl0 := hl
        have hbe0 := hbe
        have cb := hP.cell hcb
        clear h0
        go_wp2_with (with_reducible refine wpList_idx (o := ⟨some 11, .index 23 (.tmp 7) (.tmp 8), _, _, _, _⟩) (by with_unfolding_all rfl) 23 (.tmp 7) (.tmp 8) (by with_unfolding_all rfl) 3 10 k (H p.m) (.int .i64 (m : Int)) (.int .i64) (by with_unfolding_all rfl) (by with_unfolding_all rfl) (by with_unfolding_all exact Tryd.underlying23) (by with_unfolding_all exact Tryd.szI) (by with_unfolding_all exact Tryd.underlying3) (by with_unfolding_all rfl) hlt HCM.out ?_)
        have hT0 := builder_next hI0 (Below.refl _ _) hl0
        (with_reducible refine (wordText_any m b _ hm hb).mono ?_)
        rintro e w5 ⟨rfl, hb5⟩
        have hP5 := hP0.next hb5 hP0.lt
        have hI5 := builder_next hI0 hb5 hl0
        have hl5 : gb < w5.heap.size := Nat.lt_of_lt_of_le hl0 hb5.size
        have hbe5 := below_join hbe0 hb5
        have hw5 := write_str gb gb _ (⟨(wordT m b).toArray⟩ : ByteArray) w5 hI5 (by rw [hlen0]; exact HLW.out) (Nat.le_of_lt hl5)
        have HW5 := Lib.hid hw5
        clear hw5 cb hT0
        go_wp2_with fail
        (with_reducible refine HW5.out.mono ?_)
        rintro e w6 ⟨rfl, hB6, hb6⟩
        have hl6 : gb < w6.heap.size := Nat.lt_of_lt_of_le hl5 hb6.size
        have hP6 := hP5.next hb6 hgpb
        have hbe6 := hbe5.trans (hb6.mono hwgb)
        have hI6 : Lib.IsBuilder 102 5 gb gb ((textTo p (k + 1)).map B8) w6 := by
          have h := hB6
          rw [hst0] at h
          exact .inr h
        have HI6 := Lib.hid hI6
        clear hI6 hB6 hI5 HW5
        go_wp2
        go_roundw
        case rel => exact ⟨k + 1, by omega, by go_num, hP6, HI6.out, hl6, hbe6⟩
        case measure => simp [intOf]; omega
      · have hkp : (k : Int) > 0 := by omega
        have hst1 : (((textTo p k).map B8 ++ ({ data := #[32] } : ByteArray).data.toList.map B8) ++ (⟨(wordT m b).toArray⟩ : ByteArray).data.toList.map B8) = (textTo p (k + 1)).map B8 := by
          rw [← hme.out, ← hbe'.out]
          show _ = ((textTo p k ++ (if k = 0 then [] else [32])) ++ wordT (word p.m k) (word p.b k)).map B8
          rw [if_neg h0]
          simp
        have hlen1 : (((textTo p k).map B8 ++ ({ data := #[32] } : ByteArray).data.toList.map B8)).length = (textTo p k).length + 1 := by
          rw [List.length_append, List.length_map]; rfl
        have hw := write_str gb gb _ ({ data := #[32] } : ByteArray) wr hI (by rw [List.length_map]; show _ + 1 ≤ _; omega) (Nat.le_of_lt hl)
        have HW := Lib.hid hw
        clear hw h0
        go_wp2_with (with_reducible refine wpList_idx (o := ⟨some 11, .index 23 (.tmp 7) (.tmp 8), _, _, _, _⟩) (by with_unfolding_all rfl) 23 (.tmp 7) (.tmp 8) (by with_unfolding_all rfl) 3 10 k (H p.m) (.int .i64 (m : Int)) (.int .i64) (by with_unfolding_all rfl) (by with_unfolding_all rfl) (by with_unfolding_all exact Tryd.underlying23) (by with_unfolding_all exact Tryd.szI) (by with_unfolding_all exact Tryd.underlying3) (by with_unfolding_all rfl) hlt HCM.out ?_)
        (with_reducible refine HW.out.mono ?_)
        rintro e w3 ⟨rfl, hB3, hb3⟩
        have hl1 : gb < w3.heap.size := Nat.lt_of_lt_of_le hl hb3.size
        have hP1 := hP.next hb3 hgpb
        have hbe1 := hbe.trans (hb3.mono hwgb)
        have hI1 : Lib.IsBuilder 102 5 gb gb ((textTo p k).map B8 ++ ({ data := #[32] } : ByteArray).data.toList.map B8) w3 := .inr hB3
        clear hB3 HW hI
        have cb := hP1.cell hcb
        go_wp2_with fail
        have hT1 := builder_next hI1 (Below.refl _ _) hl1
        (with_reducible refine (wordText_any m b _ hm hb).mono ?_)
        rintro e w5 ⟨rfl, hb5⟩
        have hP5 := hP1.next hb5 hP1.lt
        have hI5 := builder_next hI1 hb5 hl1
        have hl5 : gb < w5.heap.size := Nat.lt_of_lt_of_le hl1 hb5.size
        have hbe5 := below_join hbe1 hb5
        have hw5 := write_str gb gb _ (⟨(wordT m b).toArray⟩ : ByteArray) w5 hI5 (by rw [hlen1]; exact HLW.out) (Nat.le_of_lt hl5)
        have HW5 := Lib.hid hw5
        clear hw5 cb hT1
        go_wp2_with fail
        (with_reducible refine HW5.out.mono ?_)
        rintro e w6 ⟨rfl, hB6, hb6⟩
        have hl6 : gb < w6.heap.size := Nat.lt_of_lt_of_le hl5 hb6.size
        have hP6 := hP5.next hb6 hgpb
        have hbe6 := hbe5.trans (hb6.mono hwgb)
        have hI6 : Lib.IsBuilder 102 5 gb gb ((textTo p (k + 1)).map B8) w6 := by
          have h := hB6
          rw [hst1] at h
          exact .inr h
        have HI6 := Lib.hid hI6
        clear hI6 hB6 hI5 HW5
        go_wp2
        go_roundw
        case rel => exact ⟨k + 1, by omega, by go_num, hP6, HI6.out, hl6, hbe6⟩
        case measure => simp [intOf]; omega
    · obtain rfl : k = 10 := by omega
      have ht := text_str gb gb _ wr hI (Nat.le_of_lt hl)
      have HT := Lib.hid ht
      clear ht
      go_wp2_with fail
      (with_reducible refine HT.out.mono ?_)
      rintro e w3 ⟨rfl, hb3⟩
      have hfin := hbe.trans (hb3.mono hwgb)
      go_wp2
      go_ret
      exact ⟨rfl, hfin⟩
end Go.Proofs.YtkkgfdfjgfigcaaDoor

/-
  Contract of the walk over number. Conditions: at most a million bytes.
-/
namespace Go.Proofs.YtkkgfdfjgfigcaaDoor
set_option linter.unusedVariables false
set_option linter.unusedSimpArgs false
open Go.RowKit Go.Shelf

def numStep (n : Int) (c : UInt8) : Int := IntKind.i64.wrap (IntKind.i64.wrap (n * 16) + Lib.indexByte digs c)
/-- What number reads. -/
def numI (l : List UInt8) : Int := l.foldl numStep 0
theorem index_any (c : UInt8) (w : World) :
    Calls Tryd.prog 184 #[.string { data := #[48, 49, 50, 51, 52, 53, 54, 55, 56, 57, 97, 98, 99, 100, 101, 102] }, .int .u8 (c.toNat : Int)] w fun e w' => e = .returned (.int .i64 (Lib.indexByte digs c)) ∧ w = w' := by
  have h := Any.strings_IndexByte Tryd.indexA { data := #[48, 49, 50, 51, 52, 53, 54, 55, 56, 57, 97, 98, 99, 100, 101, 102] } (c.toNat : Int) w
  refine Calls.mono h ?_
  rintro e w' ⟨rfl, rfl⟩
  refine ⟨?_, rfl⟩
  rw [show ((c.toNat : Int)).toNat.toUInt8 = c by simp]
  rfl
def NumRel (s : ByteArray) (n i : Value) : Prop := ∃ k : Nat, k ≤ s.size ∧ i = .int .i64 (k : Int) ∧ n = .int .i64 (numI (s.data.toList.take k))
set_option maxRecDepth 100000 in
set_option maxHeartbeats 1600000 in
theorem number_any (s : ByteArray) (w : World) (hs : s.size ≤ 1000000) :
    Calls Tryd.prog 157 #[.string s] w fun e w' => e = .returned (.int .i64 (numI s.data.toList)) ∧ w = w' := by
  have hlen : Hid (s.data.toList.length = s.size) := bytes_size s
  go_enter Tryd.func157, Tryd.ntmps157
  go_wp2
  go_loop [3, 7] (NumRel s) (fun _ i => s.size - (intOf i).toNat)
  case atStart => exact ⟨0, by omega, rfl, rfl⟩
  case round =>
    obtain ⟨k, hk, rfl, rfl⟩ := hrel
    by_cases hlt : k < s.size
    · have hki : (k : Int) < (s.size : Int) := by omega
      have hsn : Hid (numI (s.data.toList.take (k + 1)) = numStep (numI (s.data.toList.take k)) s[k]) := by
        have : numI (s.data.toList.take (k + 1)) = numStep (numI (s.data.toList.take k)) s[k] := by
          rw [List.take_succ_eq_append_getElem (by rw [hlen.out]; exact hlt)]
          unfold numI
          rw [List.foldl_append]
          rfl
        exact this
      obtain ⟨N, hN⟩ : ∃ N, numI (s.data.toList.take k) = N := ⟨_, rfl⟩
      rw [hN] at hsn ⊢
      obtain ⟨M1, hM1⟩ : ∃ M1, IntKind.i64.wrap (N * 16) = M1 := ⟨_, rfl⟩
      obtain ⟨I, hI⟩ : ∃ I, Hid (Lib.indexByte digs s[k] = I) := ⟨Lib.indexByte digs s[k], Lib.hid rfl⟩
      obtain ⟨M2, hM2⟩ : ∃ M2, IntKind.i64.wrap (M1 + I) = M2 := ⟨_, rfl⟩
      have HE : Hid (numI (s.data.toList.take (k + 1)) = M2) := by
        have : numI (s.data.toList.take (k + 1)) = M2 := by rw [hsn.out]; unfold numStep; rw [hM1, hI.out, hM2]
        exact this
      have HIX := Lib.hid (fun w => index_any s[k] w)
      rw [hI.out] at HIX
      clear hN hsn hI
      go_wp2_with fail
      (with_reducible refine (HIX.out _).mono ?_)
      rintro e w1 ⟨rfl, rfl⟩
      go_wp2
      go_round
      case rel => exact ⟨k + 1, by omega, by go_num, by rw [HE.out]⟩
      case measure => simp [intOf]; omega
    · obtain rfl : k = s.size := by omega
      have hta : Hid (numI (s.data.toList.take s.size) = numI s.data.toList) := by
        have : numI (s.data.toList.take s.size) = numI s.data.toList := by rw [List.take_of_length_le (by rw [hlen.out]; omega)]
        exact this
      rw [hta.out]
      go_wp2
      go_ret
      exact ⟨rfl, rfl⟩
end Go.Proofs.YtkkgfdfjgfigcaaDoor

/-
  Contract of the walk over the reference's digit. Conditions: none.
-/
namespace Go.Proofs.YtkkgfdfjgfigcaaDoor
set_option linter.unusedVariables false
set_option linter.unusedSimpArgs false
open Go.RowKit

/-- The value of a digit; -1: it is none. -/
def digI (c : UInt8) : Int := if 48 ≤ c.toNat ∧ c.toNat ≤ 57 then (c.toNat : Int) - 48 else if 97 ≤ c.toNat ∧ c.toNat ≤ 102 then (c.toNat : Int) - 97 + 10 else -1
set_option maxRecDepth 100000 in
set_option maxHeartbeats 1600000 in
theorem rdigit_any (c : UInt8) (w : World) :
    Calls Tryd.prog 158 #[.int .u8 (c.toNat : Int)] w fun e w' => e = .returned (.int .i64 (digI c)) ∧ w = w' := by
  have hlt : c.toNat < 256 := c.toNat_lt
  have HD : Hid (∀ v, (48 ≤ c.toNat ∧ c.toNat ≤ 57 → v = (c.toNat : Int) - 48) → (¬ (48 ≤ c.toNat ∧ c.toNat ≤ 57) → 97 ≤ c.toNat ∧ c.toNat ≤ 102 → v = (c.toNat : Int) - 97 + 10) → (¬ (48 ≤ c.toNat ∧ c.toNat ≤ 57) → ¬ (97 ≤ c.toNat ∧ c.toNat ≤ 102) → v = -1) → v = digI c) := fun v h1 h2 h3 => by
    unfold digI
    split
    · exact h1 ‹_›
    · split
      · exact h2 ‹_› ‹_›
      · exact h3 ‹_› ‹_›
  obtain ⟨D, hD⟩ : ∃ D, digI c = D := ⟨_, rfl⟩
  rw [hD] at HD ⊢
  obtain ⟨n, hn⟩ : ∃ n : Nat, c.toNat = n := ⟨_, rfl⟩
  rw [hn] at HD hlt ⊢
  clear hD hn
  have w1 : IntKind.i64.wrap (n : Int) = (n : Int) := by simp only [IntKind.wrap_i64]; omega
  have w2 : IntKind.i64.wrap ((n : Int) - 48) = (n : Int) - 48 := by simp only [IntKind.wrap_i64]; omega
  have w3 : IntKind.i64.wrap ((n : Int) - 97) = (n : Int) - 97 := by simp only [IntKind.wrap_i64]; omega
  have w4 : IntKind.i64.wrap ((n : Int) - 97 + 10) = (n : Int) - 97 + 10 := by simp only [IntKind.wrap_i64]; omega
  obtain ⟨b1, h1⟩ : ∃ b, decide ((48 : Int) ≤ (n : Int)) = b := ⟨_, rfl⟩
  obtain ⟨b2, h2⟩ : ∃ b, decide ((n : Int) ≤ 57) = b := ⟨_, rfl⟩
  obtain ⟨b3, h3⟩ : ∃ b, decide ((97 : Int) ≤ (n : Int)) = b := ⟨_, rfl⟩
  obtain ⟨b4, h4⟩ : ∃ b, decide ((n : Int) ≤ 102) = b := ⟨_, rfl⟩
  go_enter Tryd.func158, Tryd.ntmps158
  cases b1 with
  | false =>
    cases b3 with
    | false =>
      go_wp2
      go_ret
      exact ⟨by rw [← HD.out (-1) (fun h => absurd h.1 (by have := of_decide_eq_false h1; omega)) (fun _ h => absurd h.1 (by have := of_decide_eq_false h3; omega)) (fun _ _ => rfl)]; rfl, rfl⟩
    | true =>
      exact absurd (of_decide_eq_true h3) (by have := of_decide_eq_false h1; omega)
  | true =>
    cases b2 with
    | true =>
      go_wp2
      go_ret
      exact ⟨by rw [← HD.out ((n : Int) - 48) (fun _ => rfl) (fun h => absurd ⟨by have := of_decide_eq_true h1; omega, by have := of_decide_eq_true h2; omega⟩ h) (fun h => absurd ⟨by have := of_decide_eq_true h1; omega, by have := of_decide_eq_true h2; omega⟩ h)]; rfl, rfl⟩
    | false =>
      have hno : ¬ (48 ≤ n ∧ n ≤ 57) := fun h => by have := of_decide_eq_false h2; omega
      cases b3 with
      | false =>
        go_wp2
        go_ret
        exact ⟨by rw [← HD.out (-1) (fun h => absurd h hno) (fun _ h => absurd h.1 (by have := of_decide_eq_false h3; omega)) (fun _ _ => rfl)]; rfl, rfl⟩
      | true =>
        cases b4 with
        | true =>
          go_wp2
          go_ret
          exact ⟨by rw [← HD.out ((n : Int) - 97 + 10) (fun h => absurd h hno) (fun _ _ => rfl) (fun _ h => absurd ⟨by have := of_decide_eq_true h3; omega, by have := of_decide_eq_true h4; omega⟩ h)]; rfl, rfl⟩
        | false =>
          go_wp2
          go_ret
          exact ⟨by rw [← HD.out (-1) (fun h => absurd h hno) (fun _ h => absurd h.2 (by have := of_decide_eq_false h4; omega)) (fun _ _ => rfl)]; rfl, rfl⟩
end Go.Proofs.YtkkgfdfjgfigcaaDoor

/-
  Contract of the walk over the reference's digits. Conditions: a word.
-/
namespace Go.Proofs.YtkkgfdfjgfigcaaDoor
set_option linter.unusedVariables false
set_option linter.unusedSimpArgs false
open Go.RowKit

theorem Tryd.infoB : (Tryd.prog.info? 5).map (fun i => (i.zero, i.size, i.bytes)) = some (some (.int .u8 0), 1, 1) := by kernel_rfl
theorem run_bytes4 (w : World) (a b c d : UInt8) : (Instr.buildSlice 100 4 #[(0, .int .u8 (a.toNat : Int)), (1, .int .u8 (b.toNat : Int)), (2, .int .u8 (c.toNat : Int)), (3, .int .u8 (d.toNat : Int))]).run Tryd.prog w = .ok (.slice (some ⟨w.heap.size, 0, none⟩) 4 4) (w.alloc (.cells ([a, b, c, d].map B8).toArray 5)) := by
  have hi := Tryd.infoB
  cases hq : Tryd.prog.info? 5 with
  | none => simp [hq] at hi
  | some ie =>
    simp [hq] at hi
    refine run_buildSlice w _ 5 4 _ _ ie (.int .u8 0) (by exact Tryd.underlying100) hq hi.1 (by rw [hi.2.1]; decide) (by rw [hi.2.1]; decide) (by rw [hi.2.1]; kernel_rfl)
theorem wp_bytes4 {o : Oper} {a : Act} {W : World} {K : Act → World → Prop} {Q : Exit → Act → World → Prop} (x y z u : Operand) (ho : o.op = .buildSlice 100 4 #[(0, x), (1, y), (2, z), (3, u)])
    (b1 b2 b3 b4 : UInt8) (hx : a.eval x = .int .u8 (b1.toNat : Int)) (hy : a.eval y = .int .u8 (b2.toNat : Int)) (hz : a.eval z = .int .u8 (b3.toNat : Int)) (hu : a.eval u = .int .u8 (b4.toNat : Int))
    (h : ∀ g w', Hid (g = W.heap.size) → Below W.heap.size W w' → Blk w' g 5 ([b1, b2, b3, b4].map B8) → K (a.put o.dst (.slice (some ⟨g, 0, none⟩) 4 4)) w') : Oper.wp Tryd.prog o a W K Q := by
  have hrun := run_bytes4 W b1 b2 b3 b4
  unfold Oper.wp execOp
  simp only [ho, List.map_toArray, List.map_cons, List.map_nil, hx, hy, hz, hu, Sem.run_bind, Sem.run_pure, Result.andThen_ok, hrun]
  exact h _ _ rfl (below_new W _) (blk_new W _ _)
set_option maxRecDepth 100000 in
set_option maxHeartbeats 3200000 in
theorem rdigits_any (x : Nat) (w : World) (hx : x < 65536) :
    Calls Tryd.prog 96 #[.int .i64 (x : Int)] w fun e w' => e = .returned (.string ⟨(hexL x).toArray⟩) ∧ Below w.heap.size w w' := by
  obtain ⟨a, ha⟩ : ∃ a : Nat, Hid (x / 4096 = a) := ⟨_, rfl⟩
  obtain ⟨b, hb⟩ : ∃ a : Nat, Hid (x / 256 = a) := ⟨_, rfl⟩
  obtain ⟨b1, hb1⟩ : ∃ a : Nat, Hid (b % 16 = a) := ⟨_, rfl⟩
  obtain ⟨c, hc⟩ : ∃ a : Nat, Hid (x / 16 = a) := ⟨_, rfl⟩
  obtain ⟨c1, hc1⟩ : ∃ a : Nat, Hid (c % 16 = a) := ⟨_, rfl⟩
  obtain ⟨d1, hd1⟩ : ∃ a : Nat, Hid (x % 16 = a) := ⟨_, rfl⟩
  have hal : a < 16 := by have := ha.out; omega
  have hbl : b1 < 16 := by have := hb1.out; omega
  have hcl : c1 < 16 := by have := hc1.out; omega
  have hdl : d1 < 16 := by have := hd1.out; omega
  have hq1 : (x : Int).tdiv 4096 = (a : Int) := by rw [Int.tdiv_eq_ediv_of_nonneg (by omega), ← ha.out]; rfl
  have hq2 : (x : Int).tdiv 256 = (b : Int) := by rw [Int.tdiv_eq_ediv_of_nonneg (by omega), ← hb.out]; rfl
  have hq3 : (x : Int).tdiv 16 = (c : Int) := by rw [Int.tdiv_eq_ediv_of_nonneg (by omega), ← hc.out]; rfl
  have hr2 : (b : Int).tmod 16 = (b1 : Int) := by rw [Int.tmod_eq_emod_of_nonneg (by omega), ← hb1.out]; rfl
  have hr3 : (c : Int).tmod 16 = (c1 : Int) := by rw [Int.tmod_eq_emod_of_nonneg (by omega), ← hc1.out]; rfl
  have hr4 : (x : Int).tmod 16 = (d1 : Int) := by rw [Int.tmod_eq_emod_of_nonneg (by omega), ← hd1.out]; rfl
  have hbx : b < 65536 := by have := hb.out; omega
  have hcx : c < 65536 := by have := hc.out; omega
  have u1 : IntKind.i64.wrap (a : Int) = (a : Int) := by simp only [IntKind.wrap_i64]; omega
  have u2 : IntKind.i64.wrap (b : Int) = (b : Int) := by simp only [IntKind.wrap_i64]; omega
  have u3 : IntKind.i64.wrap (c : Int) = (c : Int) := by simp only [IntKind.wrap_i64]; omega
  have u4 : IntKind.i64.wrap (b1 : Int) = (b1 : Int) := by simp only [IntKind.wrap_i64]; omega
  have u5 : IntKind.i64.wrap (c1 : Int) = (c1 : Int) := by simp only [IntKind.wrap_i64]; omega
  have u6 : IntKind.i64.wrap (d1 : Int) = (d1 : Int) := by simp only [IntKind.wrap_i64]; omega
  have i1 : (a : Int) < 16 := by omega
  have i2 : (b1 : Int) < 16 := by omega
  have i3 : (c1 : Int) < 16 := by omega
  have i4 : (d1 : Int) < 16 := by omega
  have hs : ∀ k, k < 16 → k < ({ data := #[48, 49, 50, 51, 52, 53, 54, 55, 56, 57, 97, 98, 99, 100, 101, 102] } : ByteArray).size := fun k h => h
  have HE : Hid (hexL x = [digB a (hs a hal), digB b1 (hs b1 hbl), digB c1 (hs c1 hcl), digB d1 (hs d1 hdl)]) := by
    have : hexL x = [digB a (hs a hal), digB b1 (hs b1 hbl), digB c1 (hs c1 hcl), digB d1 (hs d1 hdl)] := by
      unfold hexL
      rw [digB_eq, digB_eq, digB_eq, digB_eq, Nat.div_one, ha.out, hb.out, hc.out, hb1.out, hc1.out, hd1.out, Nat.mod_eq_of_lt hal]
    exact this
  obtain ⟨L, hL⟩ : ∃ L, Hid (hexL x = L) := ⟨_, rfl⟩
  rw [hL.out] at HE ⊢
  go_enter Tryd.func96, Tryd.ntmps96
  go_wp2
  have hdd := below_drew w
  refine wp_region_held_drew (S := fun w' => Below w.heap.size w w') (by kernel_rfl) hdd (fun hHeld => ?_)
  generalize w.drew = wd at hdd hHeld ⊢
  refine wpAnyH_take (i := 0) (v := ?vt0) rfl (by kernel_rfl) (by kernel_rfl) (by kernel_rfl) (fun _ _ _ h => h) (Or.inl ⟨by rfl, ?yt0⟩) (by assumption) ?rt0
  case yt0 => intro w hSw; (try dsimp only at hSw); go_simp <;> (try with_reducible rfl)
  (try simp only [List.getElem_toArray, List.getElem_cons_zero, Act.put, List.setIfInBounds_toArray, List.set_cons_zero, List.set_cons_succ])
  refine wpAnyH_take (i := 1) (v := ?vt1) rfl (by kernel_rfl) (by kernel_rfl) (by kernel_rfl) (fun _ _ _ h => h) (Or.inl ⟨by rfl, ?yt1⟩) (by assumption) ?rt1
  case yt1 => intro w hSw; (try dsimp only at hSw); go_simp <;> (try with_reducible rfl)
  (try simp only [List.getElem_toArray, List.getElem_cons_succ, List.getElem_cons_zero, Act.put, List.setIfInBounds_toArray, List.set_cons_zero, List.set_cons_succ])
  refine wpAnyH_take (i := 2) (v := ?vt2) rfl (by kernel_rfl) (by kernel_rfl) (by kernel_rfl) (fun _ _ _ h => h) (Or.inl ⟨by rfl, ?yt2⟩) (by assumption) ?rt2
  case yt2 => intro w hSw; (try dsimp only at hSw); go_simp <;> (try with_reducible rfl)
  (try simp only [List.getElem_toArray, List.getElem_cons_succ, List.getElem_cons_zero, Act.put, List.setIfInBounds_toArray, List.set_cons_zero, List.set_cons_succ])
  refine wpAnyH_take (i := 3) (v := ?vt3) rfl (by kernel_rfl) (by kernel_rfl) (by kernel_rfl) (fun _ _ _ h => h) (Or.inl ⟨by rfl, ?yt3⟩) (by assumption) ?rt3
  case yt3 => intro w hSw; (try dsimp only at hSw); go_simp <;> (try with_reducible rfl)
  (try simp only [List.getElem_toArray, List.getElem_cons_succ, List.getElem_cons_zero, Act.put, List.setIfInBounds_toArray, List.set_cons_zero, List.set_cons_succ])
  refine wpAnyH_take (i := 4) (v := ?vt4) rfl (by kernel_rfl) (by kernel_rfl) (by kernel_rfl) (fun _ _ _ h => h) (Or.inl ⟨by rfl, ?yt4⟩) (by assumption) ?rt4
  case yt4 => intro w hSw; (try dsimp only at hSw); go_simp <;> (try with_reducible rfl)
  (try simp only [List.getElem_toArray, List.getElem_cons_succ, List.getElem_cons_zero, Act.put, List.setIfInBounds_toArray, List.set_cons_zero, List.set_cons_succ])
  refine wpAnyH_take (i := 5) (v := ?vt5) rfl (by kernel_rfl) (by kernel_rfl) (by kernel_rfl) (fun _ _ _ h => h) (Or.inl ⟨by rfl, ?yt5⟩) (by assumption) ?rt5
  case yt5 => intro w hSw; (try dsimp only at hSw); go_simp <;> (try with_reducible rfl)
  (try simp only [List.getElem_toArray, List.getElem_cons_succ, List.getElem_cons_zero, Act.put, List.setIfInBounds_toArray, List.set_cons_zero, List.set_cons_succ])
  refine wpAnyH_take (i := 6) (v := ?vt6) rfl (by kernel_rfl) (by kernel_rfl) (by kernel_rfl) (fun _ _ _ h => h) (Or.inl ⟨by rfl, ?yt6⟩) (by assumption) ?rt6
  case yt6 => intro w hSw; (try dsimp only at hSw); go_simp <;> (try with_reducible rfl)
  (try simp only [List.getElem_toArray, List.getElem_cons_succ, List.getElem_cons_zero, Act.put, List.setIfInBounds_toArray, List.set_cons_zero, List.set_cons_succ])
  refine wpAnyH_take (i := 7) (v := ?vt7) rfl (by kernel_rfl) (by kernel_rfl) (by kernel_rfl) (fun _ _ _ h => h) (Or.inl ⟨by rfl, ?yt7⟩) (by assumption) ?rt7
  case yt7 => intro w hSw; (try dsimp only at hSw); go_simp <;> (try with_reducible rfl)
  (try simp only [List.getElem_toArray, List.getElem_cons_succ, List.getElem_cons_zero, Act.put, List.setIfInBounds_toArray, List.set_cons_zero, List.set_cons_succ])
  refine wpAnyH_take (i := 8) (v := ?vt8) rfl (by kernel_rfl) (by kernel_rfl) (by kernel_rfl) (fun _ _ _ h => h) (Or.inl ⟨by rfl, ?yt8⟩) (by assumption) ?rt8
  case yt8 => intro w hSw; (try dsimp only at hSw); go_simp <;> (try with_reducible rfl)
  (try simp only [List.getElem_toArray, List.getElem_cons_succ, List.getElem_cons_zero, Act.put, List.setIfInBounds_toArray, List.set_cons_zero, List.set_cons_succ])
  refine wpAnyH_take (i := 9) (v := ?vt9) rfl (by kernel_rfl) (by kernel_rfl) (by kernel_rfl) (fun _ _ _ h => h) (Or.inl ⟨by rfl, ?yt9⟩) (by assumption) ?rt9
  case yt9 => intro w hSw; (try dsimp only at hSw); go_simp <;> (try with_reducible rfl)
  (try simp only [List.getElem_toArray, List.getElem_cons_succ, List.getElem_cons_zero, Act.put, List.setIfInBounds_toArray, List.set_cons_zero, List.set_cons_succ])
  refine wpAnyH_take (i := 10) (v := ?vt10) rfl (by kernel_rfl) (by kernel_rfl) (by kernel_rfl) (fun _ _ _ h => h) (Or.inl ⟨by rfl, ?yt10⟩) (by assumption) ?rt10
  case yt10 => intro w hSw; (try dsimp only at hSw); go_simp <;> (try with_reducible rfl)
  (try simp only [List.getElem_toArray, List.getElem_cons_succ, List.getElem_cons_zero, Act.put, List.setIfInBounds_toArray, List.set_cons_zero, List.set_cons_succ])
  refine wpAnyH_take (i := 11) (v := ?vt11) rfl (by kernel_rfl) (by kernel_rfl) (by kernel_rfl) (fun _ _ _ h => h) (Or.inl ⟨by rfl, ?yt11⟩) (by assumption) ?rt11
  case yt11 => intro w hSw; (try dsimp only at hSw); go_simp <;> (try with_reducible rfl)
  (try simp only [List.getElem_toArray, List.getElem_cons_succ, List.getElem_cons_zero, Act.put, List.setIfInBounds_toArray, List.set_cons_zero, List.set_cons_succ])
  refine wpAnyH_take (i := 12) (v := ?vt12) rfl (by kernel_rfl) (by kernel_rfl) (by kernel_rfl) (fun _ _ _ h => h) (Or.inl ⟨by rfl, ?yt12⟩) (by assumption) ?rt12
  case yt12 => intro w hSw; (try dsimp only at hSw); go_simp <;> (try with_reducible rfl)
  (try simp only [List.getElem_toArray, List.getElem_cons_succ, List.getElem_cons_zero, Act.put, List.setIfInBounds_toArray, List.set_cons_zero, List.set_cons_succ])
  refine wpAnyH_take (i := 13) (v := ?vt13) rfl (by kernel_rfl) (by kernel_rfl) (by kernel_rfl) (fun _ _ _ h => h) (Or.inl ⟨by rfl, ?yt13⟩) (by assumption) ?rt13
  case yt13 => intro w hSw; (try dsimp only at hSw); go_simp <;> (try with_reducible rfl)
  (try simp only [List.getElem_toArray, List.getElem_cons_succ, List.getElem_cons_zero, Act.put, List.setIfInBounds_toArray, List.set_cons_zero, List.set_cons_succ])
  refine wpAnyH_take (i := 14) (v := ?vt14) rfl (by kernel_rfl) (by kernel_rfl) (by kernel_rfl) (fun _ _ _ h => h) (Or.inl ⟨by rfl, ?yt14⟩) (by assumption) ?rt14
  case yt14 => intro w hSw; (try dsimp only at hSw); go_simp <;> (try with_reducible rfl)
  (try simp only [List.getElem_toArray, List.getElem_cons_succ, List.getElem_cons_zero, Act.put, List.setIfInBounds_toArray, List.set_cons_zero, List.set_cons_succ])
  refine wpAnyH_take (i := 15) (v := ?vt15) rfl (by kernel_rfl) (by kernel_rfl) (by kernel_rfl) (fun _ _ _ h => h) (Or.inl ⟨by rfl, ?yt15⟩) (by assumption) ?rt15
  case yt15 => intro w hSw; (try dsimp only at hSw); go_simp <;> (try with_reducible rfl)
  (try simp only [List.getElem_toArray, List.getElem_cons_succ, List.getElem_cons_zero, Act.put, List.setIfInBounds_toArray, List.set_cons_zero, List.set_cons_succ])
  refine wpAnyH_take (i := 16) (v := ?vt16) rfl (by kernel_rfl) (by kernel_rfl) (by kernel_rfl) (fun _ _ _ h => h) (Or.inl ⟨by rfl, ?yt16⟩) (by assumption) ?rt16
  case yt16 => intro w hSw; (try dsimp only at hSw); go_simp <;> (try with_reducible rfl)
  (try simp only [List.getElem_toArray, List.getElem_cons_succ, List.getElem_cons_zero, Act.put, List.setIfInBounds_toArray, List.set_cons_zero, List.set_cons_succ])
  refine wpAnyH_take (i := 17) (v := ?vt17) rfl (by kernel_rfl) (by kernel_rfl) (by kernel_rfl) (fun _ _ _ h => h) (Or.inl ⟨by rfl, ?yt17⟩) (by assumption) ?rt17
  case yt17 => intro w hSw; (try dsimp only at hSw); go_simp <;> (try with_reducible rfl)
  (try simp only [List.getElem_toArray, List.getElem_cons_succ, List.getElem_cons_zero, Act.put, List.setIfInBounds_toArray, List.set_cons_zero, List.set_cons_succ])
  refine wpAnyH_ready (rs := [18]) (by kernel_rfl) (by simp) ?_
  refine AllReadyH.cons rfl (fun K hK => ?_) AllReadyH.nil
  rw [if_pos (by rfl)]
  refine wp_bytes4 (.tmp 7) (.tmp 12) (.tmp 17) (.tmp 21) rfl (digB a (hs a hal)) (digB b1 (hs b1 hbl)) (digB c1 (hs c1 hcl)) (digB d1 (hs d1 hdl)) rfl rfl rfl rfl ?_
  intro g w1 hg hb1' hB
  have hk := below_join hdd hb1'
  rw [← HE.out] at hB
  have hll : 4 = L.length := by rw [HE.out]; rfl
  have hcv := blk_conv hB hll 4
  clear hll
  refine hK.out _ _ hk (fun hHeld => ?_)
  clear hK K hdd hb1' hg
  refine wpAnyH_ready (rs := [19]) (by kernel_rfl) (by simp) ?_
  refine AllReadyH.cons rfl (fun K hK => ?_) AllReadyH.nil
  go_simp
  refine hK.out _ _ hk (fun hHeld => ?_)
  clear hK K
  refine wpAnyH_take (i := 20) (v := ?vt20) rfl (by kernel_rfl) (by kernel_rfl) (by kernel_rfl) (fun _ _ _ h => h) (Or.inl ⟨by rfl, ?yt20⟩) (by assumption) ?rt20
  case yt20 => intro w hSw; (try dsimp only at hSw); go_simp <;> (try with_reducible rfl)
  (try simp only [List.getElem_toArray, List.getElem_cons_succ, List.getElem_cons_zero, Act.put, List.setIfInBounds_toArray, List.set_cons_zero, List.set_cons_succ])
  refine wpAnyH_done (by kernel_rfl) ?_ _
  clear hHeld
  go_wp2
  go_ret
  exact ⟨rfl, hk⟩
end Go.Proofs.YtkkgfdfjgfigcaaDoor
