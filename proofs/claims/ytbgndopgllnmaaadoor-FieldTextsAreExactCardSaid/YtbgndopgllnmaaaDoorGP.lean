/-
  Contracts of the functions that the statement calls, part 16 of 25 (merged texts: Fl, Fp). Conditions: as the head of each part says.
-/
import Derived.Test.YtbgndopgllnmaaaDoorGL
import Derived.Test.YtbgndopgllnmaaaDoorGO
import Derived.Shelf.Strconv.Itoa3
import Derived.Lib.ItoaNum
import Derived.Lib.AppendIntMem
import Derived.Test.YtbgndopgllnmaaaDoorGK
import Derived.Test.YtbgndopgllnmaaaDoorGM
import Derived.Shelf.Strings.Split

/-
  Contracts of the walks over Text and Show. Conditions: names of at most a thousand bytes, at most a hundred fields that lie in a word; the library's table lies there.
-/
namespace Go.Proofs.YtbgndopgllnmaaaDoor
set_option linter.unusedVariables false
set_option linter.unusedSimpArgs false
open Go.RowKit Go.Shelf

/-- The library's variables lie there. -/
structure QF (w : World) : Prop where
  tab : Lib.TabIs Tryd.prog w "internal/strconv.uint64pow10" .u64 Lib.pow10Tab
  spl : ∃ m : Int, w.cell? ⟨Tryd.splitA_ren.g 1, 0, none⟩ = some (.int .i64 m)
theorem tabF_next {n : String} {g : Nat} {k : IntKind} {zs : List Int} {w w' : World} (hg : Tryd.prog.globalNamed n = some g) (h : Lib.TabIs Tryd.prog w n k zs) (hb : Below w.heap.size w w') : Lib.TabIs Tryd.prog w' n k zs := by
  unfold Lib.TabIs World.var? at h ⊢
  rw [hg] at h ⊢
  simp only [Option.bind_some] at h ⊢
  have hlt : g < w.heap.size := by
    rcases Nat.lt_or_ge g w.heap.size with hl | hl
    · exact hl
    · rw [Array.getElem?_eq_none hl] at h; cases h
  rw [hb.block g hlt]; exact h
theorem QF.next {w w' : World} (h : QF w) (hb : Below w.heap.size w w') : QF w' := by
  obtain ⟨h1, m, hm⟩ := h
  exact ⟨tabF_next (g := 0) (by kernel_rfl) h1 hb, m, cellf_below hb hm⟩
theorem itoaF_any (n : Int) (w : World) (h0 : 0 ≤ n) (h1 : n ≤ 65536) (hq : QF w) : Calls Tryd.prog 56 #[.int .i64 n] w fun e w' => e = .returned (.string ⟨(Lib.itoa n).toArray⟩) ∧ Below w.heap.size w w' := by
  refine Calls.mono (Any.strconv_Itoa Tryd.itoaA n (by omega) (by omega) w hq.tab) ?_
  rintro e w' ⟨rfl, k, os, rfl⟩
  exact ⟨rfl, Lib.below_grow _ w (Nat.le_refl _) k os⟩
theorem wpList_strs {ops : Array Oper} {rest : List Oper} {o : Oper} {a : Act} {w : World} {Q : Exit → Act → World → Prop} (hw : Region.wanted o (yielded ops a.tmps) = true) (n : Nat) (ps : Array (Nat × Operand)) (ho : o.op = .buildSlice 28 n ps)
    (vs : Array (Nat × Value)) (hx : (ps.map fun p => (p.1, a.eval p.2)) = vs) (l : List ByteArray) (hr : ∀ w : World, (Instr.buildSlice 28 n vs).run Tryd.prog w = .ok (.slice (some ⟨w.heap.size, 0, none⟩) n n) (w.alloc (.cells (l.map Value.string).toArray 9)))
    (h : ∀ g w', Hid (g = w.heap.size) → Below w.heap.size w w' → Blk w' g 9 (l.map Value.string) → wpList Tryd.prog ops Q rest (a.put o.dst (.slice (some ⟨g, 0, none⟩) n n)) w') : wpList Tryd.prog ops Q (o :: rest) a w := by
  refine BigFrame.wpList_want hw fun K hK => ?_
  unfold Oper.wp execOp
  simp only [ho]
  rw [show (ps.map fun x => (x.1, a.eval x.2)) = vs from hx]
  simp [hr]
  exact hK _ _ (h _ _ rfl (below_new w _) (blk_new w _ _))
theorem run_s1 (w : World) (s : ByteArray) : (Instr.buildSlice 28 1 #[(0, .string s)]).run Tryd.prog w = .ok (.slice (some ⟨w.heap.size, 0, none⟩) 1 1) (w.alloc (.cells ([s].map Value.string).toArray 9)) := by kernel_rfl
theorem run_s2 (w : World) (s t : ByteArray) : (Instr.buildSlice 28 2 #[(0, .string s), (1, .string t)]).run Tryd.prog w = .ok (.slice (some ⟨w.heap.size, 0, none⟩) 2 2) (w.alloc (.cells ([s, t].map Value.string).toArray 9)) := by kernel_rfl
theorem run_s3 (w : World) (s t u : ByteArray) : (Instr.buildSlice 28 3 #[(0, .string s), (1, .string t), (2, .string u)]).run Tryd.prog w = .ok (.slice (some ⟨w.heap.size, 0, none⟩) 3 3) (w.alloc (.cells ([s, t, u].map Value.string).toArray 9)) := by kernel_rfl
theorem run_s4 (w : World) (s t u v : ByteArray) : (Instr.buildSlice 28 4 #[(0, .string s), (1, .string t), (2, .string u), (3, .string v)]).run Tryd.prog w = .ok (.slice (some ⟨w.heap.size, 0, none⟩) 4 4) (w.alloc (.cells ([s, t, u, v].map Value.string).toArray 9)) := by kernel_rfl
theorem wp_strs {o : Oper} {a : Act} {w : World} {K : Act → World → Prop} {Q : Exit → Act → World → Prop} (n : Nat) (ps : Array (Nat × Operand)) (ho : o.op = .buildSlice 28 n ps)
    (vs : Array (Nat × Value)) (hx : (ps.map fun p => (p.1, a.eval p.2)) = vs) (l : List ByteArray) (hr : ∀ w : World, (Instr.buildSlice 28 n vs).run Tryd.prog w = .ok (.slice (some ⟨w.heap.size, 0, none⟩) n n) (w.alloc (.cells (l.map Value.string).toArray 9)))
    (h : ∀ g w', Hid (g = w.heap.size) → Below w.heap.size w w' → Blk w' g 9 (l.map Value.string) → K (a.put o.dst (.slice (some ⟨g, 0, none⟩) n n)) w') : Oper.wp Tryd.prog o a w K Q := by
  unfold Oper.wp execOp
  simp only [ho]
  rw [show (ps.map fun x => (x.1, a.eval x.2)) = vs from hx]
  simp [hr]
  exact h _ _ rfl (below_new w _) (blk_new w _ _)
/-- The text of the first words of a head. -/
def textH (f : Nat → Bool) : Nat → List UInt8
  | 0 => []
  | k + 1 => (textH f k ++ if k = 0 then [] else [46]) ++ hexL (word f k)
theorem textH_length (f : Nat → Bool) : ∀ k, (textH f k).length ≤ 5 * k
  | 0 => by simp [textH]
  | k + 1 => by
    have := textH_length f k
    unfold textH
    rw [List.length_append, List.length_append, hexL_length]
    split
    · rw [List.length_nil]; omega
    · show _ + 1 + _ ≤ _; omega
def FtRel (f : Nat → Bool) (g1 g3 : Nat) (w : World) (i : Value) (wr : World) : Prop :=
  ∃ k : Nat, k ≤ 9 ∧ i = .int .i64 (k : Int) ∧ Bld wr g3 (textH f (k + 1)) ∧ Blk wr g1 30 (H f) ∧ Below w.heap.size w wr
set_option maxRecDepth 100000 in
set_option maxHeartbeats 3200000 in
theorem ftext_any (f : Nat → Bool) (w : World)  :
    Calls Tryd.prog 41 #[.agg (H f).toArray] w fun e w' => e = .returned (.string ⟨(textH f 10).toArray⟩) ∧ Below w.heap.size w w' := by
  go_enter Tryd.func41, Tryd.ntmps41
  go_wp2_with (with_reducible refine wpList_box (o := ⟨some 1, .box 30 (.tmp 0), _, _, _, _⟩) ?g1 30 (.tmp 0) ?o1 (.agg (H f).toArray) (H f) ?x1 ?c1 ?_)
  try (case g1 => rfl)
  try (case o1 => rfl)
  try (case x1 => rfl)
  try (case c1 => rfl)
  intro g1 w1 hg1 hs1 hb1 B1
  have hl1 : w.heap.size ≤ g1 := Nat.le_of_eq hg1.out.symm
  have hb1 := hb1.mono (Nat.le_of_eq hg1.out.symm)
  have hbe : Below w.heap.size w w1 := hb1
  clear hb1 hg1 hs1
  go_wp2_with (with_reducible refine wpList_alloc (o := ⟨some 3, .alloc 74, _, _, _, _⟩) (by with_unfolding_all rfl) 74 (by with_unfolding_all rfl) (.agg #[.pointer none, .slice none 0 0]) [.pointer none, .slice none 0 0] (by exact Tryd.zeroBd) (by with_unfolding_all rfl) ?_)
  intro g3 w2 hg3 hs2 hb2 B3
  have lt1_3 : g1 < g3 := by have := B1.lt; have := hg3.out; omega
  have hl3 : w.heap.size ≤ g3 := Nat.le_trans hbe.size (Nat.le_of_eq hg3.out.symm)
  have ne1_3 : g1 ≠ g3 := by have := B1.lt; have := hg3.out; omega
  have ne3_1 := ne1_3.symm
  have hb2 := hb2.mono (Nat.le_of_eq hg3.out.symm)
  have B1 := B1.next hb2 B1.lt
  have hbe := below_join hbe hb2
  clear hb2 hg3 hs2
  have HB : Hid (Bld w2 g3 []) := Lib.hid (Bld.new B3)
  clear B3
  have HH := Lib.hid (fun v (h : v < 10) => H_get f h)
  obtain ⟨x, hx⟩ : ∃ x, word f 0 = x := ⟨_, rfl⟩
  have hx6 := word_lt f 0
  have c0 := B1.cell (HH.out 0 (by decide))
  rw [hx] at c0 hx6
  have HX := Lib.hid hx
  clear hx
  go_wp2_with fail
  (with_reducible refine (group_any x _ hx6).mono ?_)
  rintro e w3 ⟨rfl, hb3⟩
  clear c0
  have B1 := B1.next hb3 B1.lt
  have HB := Lib.hid (HB.out.next hb3)
  have hbe := below_join hbe hb3
  clear hb3
  have HB0 := HB
  go_wp2_with (with_reducible refine wpList_strs (o := ⟨some 9, .buildSlice 28 1 #[(0, .tmp 8)], _, _, _, _⟩) (by with_unfolding_all rfl) 1 #[(0, .tmp 8)] (by with_unfolding_all rfl) #[(0, .string (⟨(hexL x).toArray⟩ : ByteArray))] (by with_unfolding_all rfl) [(⟨(hexL x).toArray⟩ : ByteArray)] (by with_unfolding_all exact fun w => run_s1 w (⟨(hexL x).toArray⟩ : ByteArray)) ?_)
  intro gs4 w4 hgs4 hbs4 BS4
  have B1 := B1.next hbs4 B1.lt
  have HB := Lib.hid (HB.out.next hbs4)
  have hne4 : g3 ≠ gs4 := by have := HB0.out.2; have := hgs4.out; omega
  have hbe := below_join hbe hbs4
  have HWR := Lib.hid (write_any g3 gs4 1 _ [(⟨(hexL x).toArray⟩ : ByteArray)] 1 w4 rfl (by decide) HB.out BS4 hne4 (by simp [joinB, hexL]))
  clear hbs4 hgs4 BS4 hne4 HB HB0
  go_wp2_with fail
  (with_reducible refine HWR.out.mono ?_)
  rintro e w5 ⟨rfl, hB5, hb5, _⟩
  have B1 := B1.next hb5 lt1_3
  have hbe := hbe.trans (hb5.mono hl3)
  have HB : Hid (Bld w5 g3 (textH f 1)) := by
    have : Bld w5 g3 (textH f 1) := by
      rw [show (textH f 1) = [] ++ joinB [(⟨(hexL x).toArray⟩ : ByteArray)] from (by show ([] ++ [] ++ hexL (word f 0)) = _; rw [HX.out]; simp [joinB])]
      exact hB5
    exact this
  clear hB5 hb5 HWR
  have H0 : Hid (FtRel f g1 g3 w (.int .i64 0) w5) := (⟨0, by omega, rfl, HB.out, B1, hbe⟩ : FtRel f g1 g3 w (.int .i64 0) w5)
  go_wp2_with (with_reducible refine wpList_cutL (o := ⟨some 11, .slice 30 (.tmp 1) (some .const (.int .i64 1)) none none, _, _, _, _⟩) ?g11 30 (.tmp 1) .const (.int .i64 1) ?o11 g1 0 ?x11 1 ?y11 10 3 ?u11 ?i11 ?k11 ?_)
  try (case x11 => rfl)
  try (case g11 => rfl)
  try (case o11 => rfl)
  try (case y11 => rfl)
  try (case u11 => exact Tryd.underlying30)
  try (case i11 => exact Tryd.szI1)
  try (case k11 => omega)
  clear HB B1 hbe
  go_wp2
  go_loopw [13] (FtRel f g1 g3 w) (fun i _ => 9 - (intOf i).toNat)
  case atStart => exact H0.out
  case round =>
    clear H0
    obtain ⟨k, hk, rfl, hB, B1, hbe⟩ := hrel
    have HB := Lib.hid hB
    clear hB
    by_cases hlt : k < 9
    · have hk0 : (0 : Int) ≤ (k : Int) := by omega
      have hki : (k : Int) < 9 := by omega
      obtain ⟨x, hx⟩ : ∃ x, word f (k + 1) = x := ⟨_, rfl⟩
      have hx6 := word_lt f (k + 1)
      have c0 := B1.cell (HH.out (k + 1) (by omega))
      rw [hx] at c0 hx6
      rw [show k + 1 = 1 + k by omega] at c0
      have HX := Lib.hid hx
      have hlen := textH_length f (k + 1)
      clear hx
      go_wp2_with fail
      (with_reducible refine (group_any x _ hx6).mono ?_)
      rintro e w21 ⟨rfl, hb21⟩
      clear c0
      have B1 := B1.next hb21 B1.lt
      have HB := Lib.hid (HB.out.next hb21)
      have hbe := below_join hbe hb21
      clear hb21
      have HB0 := HB
      go_wp2_with (with_reducible refine wpList_strs (o := ⟨some 19, .buildSlice 28 2 #[(0, .const (.string { data := #[46] })), (1, .tmp 18)], _, _, _, _⟩) (by with_unfolding_all rfl) 2 #[(0, .const (.string { data := #[46] })), (1, .tmp 18)] (by with_unfolding_all rfl) #[(0, .string ({ data := #[46] } : ByteArray)), (1, .string (⟨(hexL x).toArray⟩ : ByteArray))] (by with_unfolding_all rfl) [({ data := #[46] } : ByteArray), (⟨(hexL x).toArray⟩ : ByteArray)] (by with_unfolding_all exact fun w => run_s2 w ({ data := #[46] } : ByteArray) (⟨(hexL x).toArray⟩ : ByteArray)) ?_)
      intro gs22 w22 hgs22 hbs22 BS22
      have B1 := B1.next hbs22 B1.lt
      have HB := Lib.hid (HB.out.next hbs22)
      have hne22 : g3 ≠ gs22 := by have := HB0.out.2; have := hgs22.out; omega
      have hbe := below_join hbe hbs22
      have HWR := Lib.hid (write_any g3 gs22 2 _ [({ data := #[46] } : ByteArray), (⟨(hexL x).toArray⟩ : ByteArray)] 2 w22 rfl (by decide) HB.out BS22 hne22 (by have : (joinB [({ data := #[46] } : ByteArray), (⟨(hexL x).toArray⟩ : ByteArray)]).length = 5 := rfl; omega))
      clear hbs22 hgs22 BS22 hne22 HB HB0
      go_wp2_with fail
      (with_reducible refine HWR.out.mono ?_)
      rintro e w23 ⟨rfl, hB23, hb23, _⟩
      have B1 := B1.next hb23 lt1_3
      have hbe := hbe.trans (hb23.mono hl3)
      have HB : Hid (Bld w23 g3 (textH f (k + 2))) := by
        have : Bld w23 g3 (textH f (k + 2)) := by
          rw [show (textH f (k + 2)) = textH f (k + 1) ++ joinB [({ data := #[46] } : ByteArray), (⟨(hexL x).toArray⟩ : ByteArray)] from (by show (textH f (k + 1) ++ (if k + 1 = 0 then [] else [46])) ++ hexL (word f (k + 1)) = _; rw [if_neg (by omega), HX.out]; simp [joinB])]
          exact hB23
        exact this
      clear hB23 hb23 HWR
      clear HX hx6
      go_wp2
      go_roundw
      case rel => exact ⟨k + 1, by omega, by go_num, HB.out, B1, hbe⟩
      case measure => simp [intOf]; omega
    · obtain rfl : k = 9 := by omega
      have HR := Lib.hid (readS_any g3 _ wr HB.out)
      clear HB
      go_wp2_with fail
      (with_reducible refine HR.out.mono ?_)
      rintro e w9 ⟨rfl, hb9⟩
      have hbe := hbe.trans (hb9.mono hl3)
      go_wp2
      go_ret
      exact ⟨rfl, hbe⟩
end Go.Proofs.YtbgndopgllnmaaaDoor

/-
  Contracts of the walks over wordOf, digit and Parse of both sides. Conditions: a string of at most a million bytes; the library's variable lies there.
-/
namespace Go.Proofs.YtbgndopgllnmaaaDoor
set_option linter.unusedVariables false
set_option linter.unusedSimpArgs false
open Go.RowKit Go.Shelf

/-- The value of a digit. -/
def digV (c : UInt8) : Option Nat := if 48 ≤ c.toNat ∧ c.toNat ≤ 57 then some (c.toNat - 48) else if 97 ≤ c.toNat ∧ c.toNat ≤ 102 then some (c.toNat - 87) else none
theorem dig_index : ∀ c : UInt8, Lib.indexByte digs c = match digV c with | some n => (n : Int) | none => -1 := by
  have h : ∀ k : Fin 256, Lib.indexByte digs (UInt8.ofNat k.1) = match digV (UInt8.ofNat k.1) with | some n => (n : Int) | none => -1 := by decide +kernel
  intro c
  have := h ⟨c.toNat, c.toNat_lt⟩
  simpa using this
theorem digV_lt {c : UInt8} {n : Nat} (h : digV c = some n) : n < 16 := by
  unfold digV at h
  split at h
  · injection h with h; omega
  · split at h
    · injection h with h; omega
    · cases h
/-- The number that four digits make. -/
def wordL : Nat → List UInt8 → Option Nat
  | x, [] => some x
  | x, c :: r => match digV c with
    | some n => wordL (x * 16 + n) r
    | none => none
def wordV (l : List UInt8) : Option Nat := if l.length = 4 then wordL 0 l else none
theorem wordL_get {l : List UInt8} {k x : Nat} {c : UInt8} (h : l[k]? = some c) : wordL x (l.drop k) = match digV c with | some n => wordL (x * 16 + n) (l.drop (k + 1)) | none => none := by
  have hl := (List.getElem?_eq_some_iff.1 h).1
  rw [List.drop_eq_getElem_cons hl, (List.getElem?_eq_some_iff.1 h).2]
  rfl
def WoRel (s : ByteArray) (V : Option Nat) (x i : Value) : Prop := ∃ k y : Nat, k ≤ 4 ∧ i = .int .i64 (k : Int) ∧ x = .int .i64 (y : Int) ∧ y < 16 ^ k ∧ wordL y (s.data.toList.drop k) = V
def wordE : Option Nat → Ending
  | some x => .returned (.tuple #[.int .i64 (x : Int), .bool true])
  | none => .returned (.tuple #[.int .i64 0, .bool false])
theorem or16 (y n : Nat) (hn : n < 16) (hy : y < 4096) : bits .or .i64 ((y * 16 : Nat) : Int) (n : Int) = ((y * 16 + n : Nat) : Int) := by
  rw [or_nat (y * 16) n (by omega) (by omega)]
  congr 1
  rw [show y * 16 = 2 ^ 4 * y by omega, ← Nat.two_pow_add_eq_or_of_lt (by omega)]
set_option maxRecDepth 100000 in
set_option maxHeartbeats 1600000 in
theorem wordF_any (s : ByteArray) (w : World) (hs : s.size ≤ 1000000) :
    Calls Tryd.prog 61 #[.string s] w fun e w' => e = wordE (wordV s.data.toList) ∧ w = w' := by
  have hlen := bytes_size s
  by_cases h4 : s.size = 4
  · obtain ⟨V, hV⟩ : ∃ V, wordL 0 s.data.toList = V := ⟨_, rfl⟩
    have hv : wordV s.data.toList = V := by unfold wordV; rw [if_pos (by omega), hV]
    rw [hv]
    have h4i : (s.size : Int) = 4 := by omega
    have H0 : Hid (WoRel s V (.int .i64 0) (.int .i64 0)) := (⟨0, 0, by omega, rfl, rfl, by decide, hV⟩ : WoRel s V (.int .i64 0) (.int .i64 0))
    have HLEN := Lib.hid hlen
    clear hV hv hlen
    go_enter Tryd.func61, Tryd.ntmps61
    go_wp2
    go_loop [4, 12] (WoRel s V) (fun _ i => 4 - (intOf i).toNat)
    case atStart => exact H0.out
    case round =>
      clear H0
      obtain ⟨k, y, hk, rfl, rfl, hy, hv⟩ := hrel
      by_cases hlt : k < 4
      · have hki : (k : Int) < 4 := by omega
        have hkn : (k : Int) < (s.size : Int) := by omega
        have hks : k < s.size := by omega
        have hk0 : (0 : Int) ≤ (k : Int) := by omega
        obtain ⟨c, hc⟩ : ∃ c, s[k]'hks = c := ⟨_, rfl⟩
        have hx : ∀ h, s[k]'h = c := fun _ => hc
        have hg : s.data.toList[k]? = some c := by
          rw [Array.getElem?_toList, ← hc]
          exact Array.getElem?_eq_getElem (xs := s.data) (i := k) hks
        have hst := wordL_get (x := y) hg
        rw [hv] at hst
        have hy4 : y < 4096 := Nat.lt_of_lt_of_le hy (by
          have := Nat.pow_le_pow_right (show 0 < 16 by decide) (show k ≤ 3 by omega)
          simpa using this)
        have HIX := Lib.hid (fun w => index_any c w)
        have hdi := dig_index c
        cases hd : digV c with
        | none =>
          rw [hd] at hst hdi
          have hV : V = none := hst
          subst hV
          rw [show Lib.indexByte digs c = -1 from hdi] at HIX
          clear hst hdi hd hg hv hc
          go_wp2_with fail
          (with_reducible refine (HIX.out _).mono ?_)
          rintro e w1 ⟨rfl, rfl⟩
          go_wp2
          go_ret2
          exact ⟨rfl, rfl⟩
        | some n =>
          have hn := digV_lt hd
          rw [hd] at hst hdi
          have hst : V = wordL (y * 16 + n) (s.data.toList.drop (k + 1)) := hst
          rw [show Lib.indexByte digs c = (n : Int) from hdi] at HIX
          have hor := or16 y n hn hy4
          obtain ⟨Y, hYd⟩ : ∃ Y, y * 16 = Y := ⟨_, rfl⟩
          rw [hYd] at hor hst
          have hYi : (y : Int) * 16 = (Y : Int) := by omega
          have hwY : IntKind.i64.wrap (Y : Int) = (Y : Int) := by simp only [IntKind.wrap_i64]; omega
          obtain ⟨Z, hZ⟩ : ∃ Z, Y + n = Z := ⟨_, rfl⟩
          rw [hZ] at hor hst
          have hZl : Hid (Z < 16 ^ (k + 1)) := by
            have : Z < 16 ^ (k + 1) := by rw [Nat.pow_succ]; omega
            exact this
          have hnn : ¬ ((n : Int) < 0) := by omega
          have hnd : decide ((n : Int) < 0) = false := decide_eq_false hnn
          have HST : Hid (wordL Z (s.data.toList.drop (k + 1)) = V) := by
            have : wordL Z (s.data.toList.drop (k + 1)) = V := hst.symm
            exact this
          clear hst hdi hd hg hv hc hYd hZ hy
          go_wp2_with fail
          (with_reducible refine (HIX.out _).mono ?_)
          rintro e w1 ⟨rfl, rfl⟩
          go_wp2
          go_round
          case rel => exact ⟨k + 1, Z, by omega, by go_num, rfl, hZl.out, HST.out⟩
          case measure => simp [intOf]; omega
      · obtain rfl : k = 4 := by omega
        have hV : Hid (V = some y) := by
          have : V = some y := by rw [← hv, List.drop_eq_nil_of_le (by rw [HLEN.out]; omega)]; rfl
          exact this
        have hk4 : ((4 : Nat) : Int) = 4 := rfl
        clear hv
        go_wp2
        go_ret2
        exact ⟨by rw [hV.out]; rfl, rfl⟩
  · have hv : wordV s.data.toList = none := by unfold wordV; rw [if_neg (by omega)]
    rw [hv]
    have h4i : ¬ ((s.size : Int) = 4) := by omega
    have h4b : ((s.size : Int) == 4) = false := beq_eq_false_iff_ne.2 h4i
    have h4n : ((s.size : Int) != 4) = true := by rw [bne_iff_ne]; exact h4i
    have h4m : (s.size == 4) = false := beq_eq_false_iff_ne.2 h4
    have h4k : (s.size != 4) = true := by rw [bne_iff_ne]; exact h4
    go_enter Tryd.func61, Tryd.ntmps61
    go_wp2
    go_ret2
    exact ⟨rfl, rfl⟩
/-- The groups of a text. -/
def groupsOf (s : ByteArray) : List ByteArray := Lib.splitB { data := #[46] } 0 (min 11 (s.size + 1) - 1) s
theorem splitF_any (s : ByteArray) (w : World) (hs : s.size ≤ 1000000) (hg : QF w) :
    Calls Tryd.prog 60 #[.string s, .string { data := #[46] }, .int .i64 11] w fun e w' => ∃ g c R, e = .returned (.slice (some ⟨g, 0, none⟩) (groupsOf s).length c) ∧ Hid (g = w.heap.size) ∧ Blk w' g 9 ((groupsOf s).map Value.string ++ R) ∧ Below w.heap.size w w' := by
  obtain ⟨m, hm⟩ := hg.spl
  refine Calls.mono (Any.strings_SplitN Tryd.splitA (by kernel_rfl) s { data := #[46] } 11 m w (by omega) hm (by decide) (by decide) (by decide)) ?_
  rintro e w' ⟨rfl, rfl⟩
  exact ⟨_, _, _, rfl, rfl, blk_new w _ _, below_new w _⟩
/-- The words of groups. -/
def wordsF : List ByteArray → Option (List Nat)
  | [] => some []
  | s :: r => match wordV s.data.toList with
    | some x => (wordsF r).map (x :: ·)
    | none => none
theorem wordsF_get {l : List ByteArray} {k : Nat} {s : ByteArray} (h : l[k]? = some s) : wordsF (l.drop k) = match wordV s.data.toList with | some x => (wordsF (l.drop (k + 1))).map (x :: ·) | none => none := by
  have hl := (List.getElem?_eq_some_iff.1 h).1
  rw [List.drop_eq_getElem_cons hl, (List.getElem?_eq_some_iff.1 h).2]
  rfl
def parseM (s : ByteArray) : Option (List Nat) := if (groupsOf s).length = 10 then wordsF (groupsOf s) else none
def headE : Option (List Nat) → Ending
  | some xs => .returned (.tuple #[.agg (xs.map nV).toArray, .int .i64 0])
  | none => .returned (.tuple #[.agg (H no).toArray, .int .i64 3])
def rowN (xs : List Nat) : List Value := xs.map nV ++ List.replicate (10 - xs.length) (nV 0)
theorem rowN_nil : rowN [] = H no := by rw [H_rep]; rfl
theorem rowN_length {xs : List Nat} (h : xs.length ≤ 10) : (rowN xs).length = 10 := by unfold rowN; rw [List.length_append, List.length_map, List.length_replicate]; omega
theorem rowN_full {xs : List Nat} (h : xs.length = 10) : rowN xs = xs.map nV := by unfold rowN; rw [h]; exact List.append_nil _
theorem rowN_put {xs : List Nat} {x : Nat} (h : xs.length < 10) : splice (rowN xs) xs.length [nV x] = rowN (xs ++ [x]) := by
  unfold rowN
  rw [splice_set _ _ _ (by rw [List.length_append, List.length_map, List.length_replicate]; omega), List.set_append_right _ _ (by rw [List.length_map]; exact Nat.le_refl _), List.length_map, Nat.sub_self, List.map_append, List.length_append, List.append_assoc]
  congr 1
  obtain ⟨d, hd⟩ : ∃ d, 10 - xs.length = d + 1 := ⟨9 - xs.length, by omega⟩
  rw [hd, show 10 - (xs.length + [x].length) = d by simp; omega, List.replicate_succ]
  rfl
theorem groups_size {s t : ByteArray} (h : t ∈ groupsOf s) : t.size ≤ s.size := splitB_size _ _ _ _ h
theorem run_buildH8 (w : World) : (Instr.build 30 #[]).run Tryd.prog w = .ok (.agg (H no).toArray) w := by
  rw [H_rep]
  kernel_rfl
theorem nats_one (xs : List Nat) : ∀ u ∈ xs.map nV, u.oneCell' = true := by
  intro u hu
  obtain ⟨x, _, rfl⟩ := List.mem_map.1 hu
  rfl
structure PaI (s : ByteArray) (V : Option (List Nat)) (R : List Value) (g2 g4 g5 : Nat) (w : World) (k : Nat) (xs : List Nat) (wr : World) : Prop where
  len : xs.length = k
  val : (wordsF ((groupsOf s).drop k)).map (xs ++ ·) = V
  b2 : Blk wr g2 30 (H no)
  b5 : Blk wr g5 30 (rowN xs)
  bg : Blk wr g4 9 ((groupsOf s).map Value.string ++ R)
  below : Below w.heap.size w wr
def PaRelF (s : ByteArray) (V : Option (List Nat)) (R : List Value) (g2 g4 g5 : Nat) (w : World) (i : Value) (wr : World) : Prop :=
  ∃ (k : Nat) (xs : List Nat), k ≤ 10 ∧ i = .int .i64 (k : Int) ∧ PaI s V R g2 g4 g5 w k xs wr
set_option maxRecDepth 100000 in
set_option maxHeartbeats 3200000 in
theorem fparse_any (s : ByteArray) (w : World) (hs : s.size ≤ 1000000) (hQ : QF w) :
    Calls Tryd.prog 39 #[.string s] w fun e w' => e = headE (parseM s) ∧ Below w.heap.size w w' := by
  obtain ⟨L, hL⟩ : ∃ L, Hid ((groupsOf s).length = L) := ⟨_, rfl⟩
  have HS := Lib.hid hs
  have HQ := Lib.hid hQ
  obtain ⟨V, hV0⟩ : ∃ V, Hid (parseM s = V) := ⟨_, rfl⟩
  rw [hV0.out]
  clear hs hQ
  go_enter Tryd.func39, Tryd.ntmps39
  go_wp2_with (with_reducible refine wpList_alloc (o := ⟨some 2, .alloc 30, _, _, _, _⟩) (by with_unfolding_all rfl) 30 (by with_unfolding_all rfl) (.agg (H no).toArray) (H no) (by exact Tryd.zeroH) (by with_unfolding_all rfl) ?_)
  intro g2 w1 hg2 hs1 hb1 B2
  have hl2 : w.heap.size ≤ g2 := Nat.le_of_eq hg2.out.symm
  have hb1 := hb1.mono (Nat.le_of_eq hg2.out.symm)
  have hbe : Below w.heap.size w w1 := hb1
  clear hb1 hg2 hs1
  have HSP := Lib.hid (splitF_any s w1 HS.out (HQ.out.next hbe))
  go_wp2_with fail
  (with_reducible refine HSP.out.mono ?_)
  rintro e w3 ⟨g4, c4, R, rfl, hg4, B4, hb3⟩
  have ne24 : g2 ≠ g4 := by have := B2.lt; have := hg4.out; omega
  have B2 := B2.next hb3 B2.lt
  have hbe := below_join hbe hb3
  rw [hL.out]
  clear hb3 hg4 HSP
  by_cases hL10 : L = 10
  · subst hL10
    have ne2_4 := ne24
    have ne4_2 := ne24.symm
    have hV : Hid (wordsF (groupsOf s) = V) := by
      have : wordsF (groupsOf s) = V := by rw [← hV0.out]; exact (if_pos hL.out).symm
      exact this
    go_wp2_with (with_reducible refine wpList_alloc (o := ⟨some 5, .alloc 30, _, _, _, _⟩) (by with_unfolding_all rfl) 30 (by with_unfolding_all rfl) (.agg (H no).toArray) (H no) (by exact Tryd.zeroH) (by with_unfolding_all rfl) ?_)
    intro g5 w11 hg5 hs11 hb11 B5
    have hl5 : w.heap.size ≤ g5 := Nat.le_trans hbe.size (Nat.le_of_eq hg5.out.symm)
    have ne2_5 : g2 ≠ g5 := by have := B2.lt; have := hg5.out; omega
    have ne5_2 := ne2_5.symm
    have ne4_5 : g4 ≠ g5 := by have := B4.lt; have := hg5.out; omega
    have ne5_4 := ne4_5.symm
    have hb11 := hb11.mono (Nat.le_of_eq hg5.out.symm)
    have B2 := B2.next hb11 B2.lt
    have B4 := B4.next hb11 B4.lt
    have hbe := below_join hbe hb11
    clear hb11 hg5 hs11
    have hI0 : PaI s V R g2 g4 g5 w 0 [] w11 := ⟨rfl, by rw [List.drop_zero, hV.out]; cases V <;> rfl, B2, by rw [rowN_nil]; exact B5, B4, hbe⟩
    have H0 := Lib.hid hI0
    clear hI0 B2 B4 B5 hbe
    go_wp2
    go_loopw [18] (PaRelF s V R g2 g4 g5 w) (fun i _ => 10 - (intOf i).toNat)
    case atStart => exact ⟨0, [], by omega, rfl, H0.out⟩
    case round =>
      clear H0
      obtain ⟨k, xs, hk, rfl, hI⟩ := hrel
      have hlen := hI.len
      have hval := hI.val
      have B2 := hI.b2
      have B5 := hI.b5
      have B4 := hI.bg
      have hbe := hI.below
      clear hI
      by_cases hlt : k < 10
      · have hki : (k : Int) < 10 := by omega
        have hk0 : (0 : Int) ≤ (k : Int) := by omega
        obtain ⟨t, ht⟩ : ∃ t, (groupsOf s)[k]? = some t := ⟨_, List.getElem?_eq_getElem (by rw [hL.out]; exact hlt)⟩
        have htl : t.size ≤ 1000000 := Nat.le_trans (groups_size (List.mem_of_getElem? ht)) HS.out
        have hct : wr.cell? ⟨g4, k, none⟩ = some (.string t) := B4.cell (by rw [List.getElem?_append_left (by rw [List.length_map, hL.out]; exact hlt), List.getElem?_map, ht]; rfl)
        have hst := wordsF_get ht
        have HWO := Lib.hid (fun w => wordF_any t w htl)
        cases hw : wordV t.data.toList with
        | none =>
          rw [hw] at HWO hst
          have hVn : Hid (V = none) := by
            have : V = none := by rw [← hval, hst]; rfl
            exact this
          have HWO2 : Hid (∀ w, Calls Tryd.prog 61 #[.string t] w fun e w' => e = .returned (.tuple #[.int .i64 0, .bool false]) ∧ w = w') := HWO
          clear HWO hw hst hval hlen ht htl
          go_wp2_with fail
          (with_reducible refine (HWO2.out _).mono ?_)
          rintro e w1 ⟨rfl, rfl⟩
          have hl2 := hl2
          go_wp2_with (first | (with_reducible refine wpList_build (o := ⟨some 30, .build 30 #[], _, _, _, _⟩) (by with_unfolding_all rfl) 30 #[] (by with_unfolding_all rfl) #[] (by with_unfolding_all rfl) (.agg (H no).toArray) (by with_unfolding_all exact fun w => run_buildH8 w) ?_) | (with_reducible refine wpList_put (o := ⟨none, .store 30 (.tmp 2) (.tmp 30), _, _, _, _⟩) (by with_unfolding_all rfl) 30 (.tmp 2) (.tmp 30) (by with_unfolding_all rfl) g2 0 (by with_unfolding_all rfl) (.agg (H no).toArray) (by with_unfolding_all rfl) B2 (H no) (by with_unfolding_all rfl) (by with_unfolding_all (first | exact Tryd.szH | (simp only [H_length, Pat.cells_length, List.length_append]; exact Tryd.szH))) (by with_unfolding_all (first | exact Nat.le_refl 3 | (simp only [H_length, Pat.cells_length, List.length_append]; omega))) (by with_unfolding_all (exact H_one _)) ?_))
          intro w31 hu31 C2
          rw [splice_all _ _ (by simp only [H_length])] at C2
          have hbe := hbe.trans (hu31.below (B := w.heap.size) hl2)
          clear B2 hu31
          have B2 := C2
          clear C2
          go_wp2
          exact bodyPost_ret (results_cell_two rfl _ _ g2 _ _ _ _ _ rfl rfl B2 Tryd.underlying30 rfl (by rw [List.size_toArray, H_length]; exact Tryd.szH)) rfl ⟨by rw [hVn.out]; rfl, hbe⟩
        | some x =>
          rw [hw] at HWO hst
          have HWO2 : Hid (∀ w, Calls Tryd.prog 61 #[.string t] w fun e w' => e = .returned (.tuple #[.int .i64 (x : Int), .bool true]) ∧ w = w') := HWO
          have HVN : Hid ((wordsF ((groupsOf s).drop (k + 1))).map ((xs ++ [x]) ++ ·) = V) := by
            have : (wordsF ((groupsOf s).drop (k + 1))).map ((xs ++ [x]) ++ ·) = V := by
              rw [← hval, hst]
              show _ = ((wordsF ((groupsOf s).drop (k + 1))).map (x :: ·)).map (xs ++ ·)
              rw [Option.map_map]
              congr 1
              funext y
              show (xs ++ [x]) ++ y = xs ++ (x :: y)
              rw [List.append_assoc]; rfl
            exact this
          have HPUT : Hid (splice (rowN xs) k [nV x] = rowN (xs ++ [x])) := by
            have : splice (rowN xs) k [nV x] = rowN (xs ++ [x]) := by rw [← hlen]; exact rowN_put (by omega)
            exact this
          have HRL : Hid ((rowN xs).length = 10) := by
            have : (rowN xs).length = 10 := rowN_length (by omega)
            exact this
          have HLEN := Lib.hid hlen
          clear HWO hw hst hval hlen ht htl
          go_wp2_with fail
          (with_reducible refine (HWO2.out _).mono ?_)
          rintro e w1 ⟨rfl, rfl⟩
          go_wp2_with (with_reducible refine wpList_put (o := ⟨none, .store 3 (.tmp 33) (.tmp 32), _, _, _, _⟩) (by with_unfolding_all rfl) 3 (.tmp 33) (.tmp 32) (by with_unfolding_all rfl) g5 k (by with_unfolding_all rfl) (.int .i64 (x : Int)) (by with_unfolding_all rfl) B5 [.int .i64 (x : Int)] (by with_unfolding_all rfl) (by with_unfolding_all (exact Tryd.szI1)) (by with_unfolding_all (rw [HRL.out]; exact hlt)) (by with_unfolding_all (exact one_cell1 rfl)) ?_)
          intro w5 hu5 C5
          have D5 : Blk w5 g5 30 (rowN (xs ++ [x])) := C5.eq HPUT.out
          have B2 := B2.upd hu5 ne2_5
          have B4 := B4.upd hu5 ne4_5
          have hbz := hbe.trans (hu5.below (B := w.heap.size) hl5)
          have hI9 : PaI s V R g2 g4 g5 w (k + 1) (xs ++ [x]) w5 := ⟨by rw [List.length_append, HLEN.out]; rfl, HVN.out, B2, D5, B4, hbz⟩
          have HI9 := Lib.hid hI9
          clear hI9 B2 B4 C5 D5 hu5 B5 hbz hbe hct
          go_wp2
          go_roundw
          case rel => exact ⟨k + 1, xs ++ [x], by omega, by go_num, HI9.out⟩
          case measure => simp [intOf]; omega
      · obtain rfl : k = 10 := by omega
        have hVs : Hid (V = some xs) := by
          have : V = some xs := by
            rw [← hval, List.drop_eq_nil_of_le (by rw [hL.out]; exact Nat.le_refl _)]
            show some (xs ++ []) = _
            rw [List.append_nil]
          exact this
        have B5 : Blk wr g5 30 (xs.map nV) := by rw [← rowN_full hlen]; exact B5
        have hxl : (xs.map nV).length = 10 := by rw [List.length_map]; exact hlen
        have HXL := Lib.hid hxl
        have hx1 := nats_one xs
        obtain ⟨X, hX⟩ : ∃ X, Hid (xs.map nV = X) := ⟨_, rfl⟩
        rw [hX.out] at B5 HXL hx1
        have HX1 := Lib.hid hx1
        have HRES : Hid (headE V = .returned (.tuple #[.agg X.toArray, .int .i64 0])) := by
          have : headE V = .returned (.tuple #[.agg X.toArray, .int .i64 0]) := by rw [hVs.out, ← hX.out]; rfl
          exact this
        clear hval hxl hx1 hlen B4
        go_wp2_with (first | (with_reducible refine wpList_getg (o := ⟨some 35, .load 30 (.tmp 5), _, _, _, _⟩) (by with_unfolding_all rfl) 30 (.tmp 5) (by with_unfolding_all rfl) g5 0 (by with_unfolding_all rfl) B5 X (cs_all _) _ (by exact Tryd.underlying30) (by with_unfolding_all rfl) (by rw [HXL.out]; exact Tryd.szH) ?_) | (with_reducible refine wpList_put (o := ⟨none, .store 30 (.tmp 2) (.tmp 35), _, _, _, _⟩) (by with_unfolding_all rfl) 30 (.tmp 2) (.tmp 35) (by with_unfolding_all rfl) g2 0 (by with_unfolding_all rfl) (.agg X.toArray) (by with_unfolding_all rfl) B2 X (by with_unfolding_all rfl) (by with_unfolding_all (rw [HXL.out]; exact Tryd.szH)) (by with_unfolding_all (rw [HXL.out, H_length]; omega)) (by with_unfolding_all (exact HX1.out)) ?_))
        intro w5 hu5 C2
        rw [splice_all _ _ (by rw [HXL.out, H_length])] at C2
        have hbz := hbe.trans (hu5.below (B := w.heap.size) hl2)
        go_wp2
        exact bodyPost_ret (results_cell_two rfl _ _ g2 _ _ _ _ _ rfl rfl C2 Tryd.underlying30 rfl (by rw [List.size_toArray, HXL.out]; exact Tryd.szH)) rfl ⟨by rw [HRES.out]; rfl, hbz⟩
  · have hVn : Hid (V = none) := by
      have : V = none := by rw [← hV0.out]; exact if_neg (by rw [hL.out]; exact hL10)
      exact this
    have hLi : ¬ ((L : Int) = 10) := by omega
    have hLb : ((L : Int) != 10) = true := by rw [bne_iff_ne]; exact hLi
    have hLc : (L != 10) = true := by rw [bne_iff_ne]; exact hL10
    have hLd : ((L : Int) == 10) = false := beq_eq_false_iff_ne.2 hLi
    have hLe : (L == 10) = false := beq_eq_false_iff_ne.2 hL10
    go_wp2_with (first | (with_reducible refine wpList_build (o := ⟨some 15, .build 30 #[], _, _, _, _⟩) (by with_unfolding_all rfl) 30 #[] (by with_unfolding_all rfl) #[] (by with_unfolding_all rfl) (.agg (H no).toArray) (by with_unfolding_all exact fun w => run_buildH8 w) ?_) | (with_reducible refine wpList_put (o := ⟨none, .store 30 (.tmp 2) (.tmp 15), _, _, _, _⟩) (by with_unfolding_all rfl) 30 (.tmp 2) (.tmp 15) (by with_unfolding_all rfl) g2 0 (by with_unfolding_all rfl) (.agg (H no).toArray) (by with_unfolding_all rfl) B2 (H no) (by with_unfolding_all rfl) (by with_unfolding_all (first | exact Tryd.szH | (simp only [H_length, Pat.cells_length, List.length_append]; exact Tryd.szH))) (by with_unfolding_all (first | exact Nat.le_refl 3 | (simp only [H_length, Pat.cells_length, List.length_append]; omega))) (by with_unfolding_all (exact H_one _)) ?_))
    intro w11 hu11 C2
    rw [splice_all _ _ (by simp only [H_length])] at C2
    have hbe := hbe.trans (hu11.below (B := w.heap.size) hl2)
    clear B2 hu11
    have B2 := C2
    clear C2
    go_wp2
    exact bodyPost_ret (results_cell_two rfl _ _ g2 _ _ _ _ _ rfl rfl B2 Tryd.underlying30 rfl (by rw [List.size_toArray, H_length]; exact Tryd.szH)) rfl ⟨by rw [hVn.out]; rfl, hbe⟩
end Go.Proofs.YtbgndopgllnmaaaDoor
