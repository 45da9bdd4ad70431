/-
  Contracts of the functions that the statement calls, part 24 of 25 (merged texts: Fm, Fs). Conditions: as the head of each part says.
-/
import Derived.Test.YtbgndopgllnmaaaDoorGP
import Derived.Test.YtbgndopgllnmaaaDoorGW
import Derived.Lib.ItoaLen

/-
  Contract of the walk over Show. Conditions: at most a hundred fields that lie in a word, with names of at most a thousand bytes; the library's table lies there.
-/
namespace Go.Proofs.YtbgndopgllnmaaaDoor
set_option linter.unusedVariables false
set_option linter.unusedSimpArgs false
open Go.RowKit Go.Shelf

/-- One field of a text. -/
def showF (h : Nat → Bool) (f : Fd) : List UInt8 := [32] ++ f.nm.data.toList ++ [61] ++ Lib.itoa (keyV h f)
def showTo (l : List Fd) (h : Nat → Bool) (k : Nat) : List UInt8 := [112, 111, 114, 116, 61] ++ Lib.itoa (word h 0 : Int) ++ (l.take k).flatMap (showF h)
def showG (h : Nat → Bool) : List UInt8 := if word h 9 = 0 then [] else [32, 116, 97, 103, 61] ++ Lib.itoa (word h 9 : Int)
def showT (l : List Fd) (h : Nat → Bool) : List UInt8 := showTo l h l.length ++ showG h
theorem showTo_next {l : List Fd} {h : Nat → Bool} {k : Nat} {f : Fd} (hf : l[k]? = some f) : showTo l h (k + 1) = showTo l h k ++ showF h f := by
  unfold showTo
  rw [take_snoc hf, List.flatMap_append, List.append_assoc]
  simp
theorem itoa_21 (n : Nat) (h : n ≤ 65536) : (Lib.itoa (n : Int)).length ≤ 21 := Lib.itoa_length_le _ (by omega) (by omega)
theorem keyV_le (h : Nat → Bool) (f : Fd) (hf : ∃ a n : Nat, f.at_ = (a : Int) ∧ f.wd = (n : Int) ∧ Lies a n) : fieldN h f.at_.toNat f.wd.toNat ≤ 65536 := by
  obtain ⟨a, n, ha, hn, hl⟩ := hf
  have := fieldN_lt h f.at_.toNat f.wd.toNat
  have e : f.wd.toNat = n := by omega
  rw [e] at this ⊢
  have := hl.pow
  omega
theorem showTo_length {l : List Fd} (h : Nat → Bool) (hr : ∀ f ∈ l, ∃ a n : Nat, f.at_ = (a : Int) ∧ f.wd = (n : Int) ∧ Lies a n) (hz : ∀ f ∈ l, f.nm.size ≤ 1000) : ∀ k, k ≤ l.length → (showTo l h k).length ≤ 30 + 1030 * k
  | 0, _ => by
    have := itoa_21 (word h 0) (by have := word_lt h 0; omega)
    unfold showTo
    rw [List.take_zero, List.length_append, List.length_append]
    show 5 + _ + 0 ≤ _
    omega
  | k + 1, hk => by
    have ih := showTo_length h hr hz k (by omega)
    have hf : l[k]? = some l[k] := List.getElem?_eq_getElem (by omega)
    rw [showTo_next hf, List.length_append]
    have hm := List.getElem_mem (l := l) (n := k) (by omega)
    have h1 := hz _ hm
    have h2 := itoa_21 _ (keyV_le h _ (hr _ hm))
    unfold showF
    rw [List.length_append, List.length_append, List.length_append, bytes_size]
    show _ + (1 + _ + 1 + (Lib.itoa (fieldN h _ _ : Int)).length) ≤ _
    omega
def ShRel (l : List Fd) (h : Nat → Bool) (g3 g5 n : Nat) (w : World) (i : Value) (wr : World) : Prop :=
  ∃ k : Nat, k ≤ n ∧ i = .int .i64 (k : Int) ∧ Bld wr g5 (showTo l h k) ∧ Blk wr g3 30 (H h) ∧ Below w.heap.size w wr
set_option maxRecDepth 100000 in
set_option maxHeartbeats 3200000 in
theorem fshow_any (A : Option Addr) (c : Nat) (l : List Fd) (h : Nat → Bool) (w : World) (hl : l.length ≤ 100) (hr : ∀ f ∈ l, ∃ a n : Nat, f.at_ = (a : Int) ∧ f.wd = (n : Int) ∧ Lies a n) (hz : ∀ f ∈ l, f.nm.size ≤ 1000) (hS : FsAt w A l) (hQ : QF w) :
    Calls Tryd.prog 23 #[.slice A l.length c, .agg (H h).toArray] w fun e w' => e = .returned (.string ⟨(showT l h).toArray⟩) ∧ Below w.heap.size w w' := by
  obtain ⟨n, hn⟩ : ∃ n, Hid (l.length = n) := ⟨_, rfl⟩
  have hlen := showTo_length h hr hz
  rw [hn.out] at hl hlen ⊢
  have hni : (n : Int) ≤ 100 := by omega
  have HS := Lib.hid hS
  have HQ := Lib.hid hQ
  have HR := Lib.hid hr
  have HZ := Lib.hid hz
  have HLEN := Lib.hid hlen
  obtain ⟨RES, hRES⟩ : ∃ R, Hid (showT l h = R) := ⟨_, rfl⟩
  rw [hRES.out]
  clear hS hQ hr hz hlen
  go_enter Tryd.func23, Tryd.ntmps23
  go_wp2_with (with_reducible refine wpList_box (o := ⟨some 3, .box 30 (.tmp 1), _, _, _, _⟩) ?g3 30 (.tmp 1) ?o3 (.agg (H h).toArray) (H h) ?x3 ?c3 ?_)
  try (case g3 => rfl)
  try (case o3 => rfl)
  try (case x3 => rfl)
  try (case c3 => rfl)
  intro g3 w1 hg3 hs1 hb1 B3
  have hl3 : w.heap.size ≤ g3 := Nat.le_of_eq hg3.out.symm
  have hb1 := hb1.mono (Nat.le_of_eq hg3.out.symm)
  have hbe : Below w.heap.size w w1 := hb1
  clear hb1 hg3 hs1
  go_wp2_with (with_reducible refine wpList_alloc (o := ⟨some 5, .alloc 74, _, _, _, _⟩) (by with_unfolding_all rfl) 74 (by with_unfolding_all rfl) (.agg #[.pointer none, .slice none 0 0]) [.pointer none, .slice none 0 0] (by exact Tryd.zeroBd) (by with_unfolding_all rfl) ?_)
  intro g5 w2 hg5 hs2 hb2 B5
  have lt3_5 : g3 < g5 := by have := B3.lt; have := hg5.out; omega
  have hl5 : w.heap.size ≤ g5 := Nat.le_trans hbe.size (Nat.le_of_eq hg5.out.symm)
  have ne3_5 : g3 ≠ g5 := by have := B3.lt; have := hg5.out; omega
  have ne5_3 := ne3_5.symm
  have hb2 := hb2.mono (Nat.le_of_eq hg5.out.symm)
  have B3 := B3.next hb2 B3.lt
  have hbe := below_join hbe hb2
  clear hb2 hg5 hs2
  have HB : Hid (Bld w2 g5 []) := Lib.hid (Bld.new B5)
  clear B5
  have HH := Lib.hid (fun v (hv : v < 10) => H_get h hv)
  obtain ⟨x, hx⟩ : ∃ x, word h 0 = x := ⟨_, rfl⟩
  have hx6 := word_lt h 0
  have c0 := B3.cell (HH.out 0 (by decide))
  rw [hx] at c0 hx6
  have HX := Lib.hid hx
  have hx0 : (0 : Int) ≤ (x : Int) := by omega
  have hx9 : (x : Int) ≤ 65536 := by omega
  clear hx
  go_wp2_with fail
  (with_reducible refine (itoaF_any (x : Int) _ hx0 hx9 (HQ.out.next hbe)).mono ?_)
  rintro e w3 ⟨rfl, hb3⟩
  clear c0
  have B3 := B3.next hb3 B3.lt
  have HB := Lib.hid (HB.out.next hb3)
  have hbe := below_join hbe hb3
  clear hb3
  have HB0 := HB
  have hi21 := itoa_21 x (by omega)
  have hlenA : ([] : List UInt8).length + (joinB [({ data := #[112, 111, 114, 116] } : ByteArray), ({ data := #[61] } : ByteArray), (⟨(Lib.itoa (x : Int)).toArray⟩ : ByteArray)]).length ≤ 1000000 := by
    unfold joinB
    simp only [List.flatMap_cons, List.flatMap_nil, List.length_append, List.append_nil, bytes_size, arr_len, List.length_nil]
    show 0 + (4 + (1 + _)) ≤ _
    omega
  go_wp2_with (with_reducible refine wpList_strs (o := ⟨some 12, .buildSlice 28 3 #[(0, .const (.string { data := #[112, 111, 114, 116] })), (1, .const (.string { data := #[61] })), (2, .tmp 11)], _, _, _, _⟩) (by with_unfolding_all rfl) 3 #[(0, .const (.string { data := #[112, 111, 114, 116] })), (1, .const (.string { data := #[61] })), (2, .tmp 11)] (by with_unfolding_all rfl) #[(0, .string ({ data := #[112, 111, 114, 116] } : ByteArray)), (1, .string ({ data := #[61] } : ByteArray)), (2, .string (⟨(Lib.itoa (x : Int)).toArray⟩ : ByteArray))] (by with_unfolding_all rfl) [({ data := #[112, 111, 114, 116] } : ByteArray), ({ data := #[61] } : ByteArray), (⟨(Lib.itoa (x : Int)).toArray⟩ : ByteArray)] (by with_unfolding_all exact fun w => run_s3 w ({ data := #[112, 111, 114, 116] } : ByteArray) ({ data := #[61] } : ByteArray) (⟨(Lib.itoa (x : Int)).toArray⟩ : ByteArray)) ?_)
  intro gs4 w4 hgs4 hbs4 BS4
  have B3 := B3.next hbs4 B3.lt
  have HB := Lib.hid (HB.out.next hbs4)
  have hne4 : g5 ≠ gs4 := by have := HB0.out.2; have := hgs4.out; omega
  have hbe := below_join hbe hbs4
  have HWR := Lib.hid (write_any g5 gs4 3 _ [({ data := #[112, 111, 114, 116] } : ByteArray), ({ data := #[61] } : ByteArray), (⟨(Lib.itoa (x : Int)).toArray⟩ : ByteArray)] 3 w4 rfl (by decide) HB.out BS4 hne4 (by exact hlenA))
  clear hbs4 hgs4 BS4 hne4 HB HB0
  go_wp2_with fail
  (with_reducible refine HWR.out.mono ?_)
  rintro e w5 ⟨rfl, hB5, hb5, _⟩
  have B3 := B3.next hb5 lt3_5
  have hbe := hbe.trans (hb5.mono hl5)
  have HB : Hid (Bld w5 g5 (showTo l h 0)) := by
    have : Bld w5 g5 (showTo l h 0) := by
      rw [show (showTo l h 0) = [] ++ joinB [({ data := #[112, 111, 114, 116] } : ByteArray), ({ data := #[61] } : ByteArray), (⟨(Lib.itoa (x : Int)).toArray⟩ : ByteArray)] from (by unfold showTo; rw [HX.out]; simp [joinB])]
      exact hB5
    exact this
  clear hB5 hb5 HWR
  have H0 : Hid (ShRel l h g3 g5 n w (.int .i64 0) w5) := (⟨0, Nat.zero_le _, rfl, HB.out, B3, hbe⟩ : ShRel l h g3 g5 n w (.int .i64 0) w5)
  clear HB B3 hbe HX
  go_wp2
  go_loopw [16] (ShRel l h g3 g5 n w) (fun i _ => n - (intOf i).toNat)
  case atStart => exact H0.out
  case round =>
    clear H0
    obtain ⟨k, hk, rfl, hB, B3, hbe⟩ := hrel
    have HB := Lib.hid hB
    have hlk := HLEN.out k hk
    clear hB
    by_cases hlt : k < n
    · have hk0 : (0 : Int) ≤ (k : Int) := by omega
      have hki : (k : Int) < (n : Int) := by omega
      obtain ⟨f, hf⟩ : ∃ f, l[k]? = some f := ⟨_, List.getElem?_eq_getElem (by rw [hn.out]; exact hlt)⟩
      obtain ⟨ga, oa, hA, d0, d1, d2⟩ := (HS.out.next hbe) k f hf
      subst hA
      have hfit := HR.out f (List.mem_of_getElem? hf)
      have hnl := HZ.out f (List.mem_of_getElem? hf)
      have hsn := showTo_next (h := h) hf
      have hv9 := keyV_le h f hfit
      obtain ⟨a, b, hfa, hfb, hLb⟩ := hfit
      obtain ⟨fm, fa, fb⟩ := f
      have hfa : fa = (a : Int) := hfa
      have hfb : fb = (b : Int) := hfb
      subst hfa hfb
      obtain ⟨V, hV⟩ : ∃ V, fieldN h a b = V := ⟨_, rfl⟩
      have HGE := Lib.hid (fun w' => get_any fm a b h w' hLb)
      have hkv : keyV h ⟨fm, (a : Int), (b : Int)⟩ = (V : Int) := by rw [← hV]; rfl
      have hv9 : V ≤ 65536 := by rw [← hV]; exact hv9
      rw [hV] at HGE
      have hV0 : (0 : Int) ≤ (V : Int) := by omega
      have hV9 : (V : Int) ≤ 65536 := by omega
      have hi21 := itoa_21 V hv9
      have HSN : Hid (showTo l h (k + 1) = showTo l h k ++ joinB [({ data := #[32] } : ByteArray), fm, ({ data := #[61] } : ByteArray), (⟨(Lib.itoa (V : Int)).toArray⟩ : ByteArray)]) := by
        have : showTo l h (k + 1) = showTo l h k ++ joinB [({ data := #[32] } : ByteArray), fm, ({ data := #[61] } : ByteArray), (⟨(Lib.itoa (V : Int)).toArray⟩ : ByteArray)] := by
          rw [hsn]; unfold showF; rw [hkv]; simp [joinB]
        exact this
      have HJL : Hid ((showTo l h k).length + (joinB [({ data := #[32] } : ByteArray), fm, ({ data := #[61] } : ByteArray), (⟨(Lib.itoa (V : Int)).toArray⟩ : ByteArray)]).length ≤ 1000000) := by
        have : (showTo l h k).length + (joinB [({ data := #[32] } : ByteArray), fm, ({ data := #[61] } : ByteArray), (⟨(Lib.itoa (V : Int)).toArray⟩ : ByteArray)]).length ≤ 1000000 := by
          have e : (joinB [({ data := #[32] } : ByteArray), fm, ({ data := #[61] } : ByteArray), (⟨(Lib.itoa (V : Int)).toArray⟩ : ByteArray)]).length = 1 + (fm.size + (1 + (Lib.itoa (V : Int)).length)) := by
            unfold joinB
            simp only [List.flatMap_cons, List.flatMap_nil, List.length_append, List.append_nil, bytes_size]
            rw [arr_len]; rfl
          have hnl : fm.size ≤ 1000 := hnl
          omega
        exact this
      have hbr : Below wr.heap.size wr wr := Below.refl _ _
      clear hV hkv hf hfa hfb hsn hnl
      go_wp2_with (with_reducible refine wpList_alloc (o := ⟨some 7, .alloc 33, _, _, _, _⟩) (by with_unfolding_all rfl) 33 (by with_unfolding_all rfl) (.agg #[.string ByteArray.empty, .int .i64 0, .int .i64 0]) [Value.string ByteArray.empty, .int .i64 0, .int .i64 0] (by exact Tryd.zeroF) (by with_unfolding_all rfl) ?_)
      intro g7 w31 hg7 hs31 hb31 B7
      have hl7 : w.heap.size ≤ g7 := Nat.le_trans hbe.size (Nat.le_of_eq hg7.out.symm)
      have hr7 : wr.heap.size ≤ g7 := Nat.le_trans hbr.size (Nat.le_of_eq hg7.out.symm)
      have h57 : g5 < g7 := Nat.lt_of_lt_of_le HB.out.2 hr7
      have ne3_7 : g3 ≠ g7 := by have := B3.lt; have := hg7.out; omega
      have ne7_3 := ne3_7.symm
      have hb31 := hb31.mono (Nat.le_of_eq hg7.out.symm)
      have B3 := B3.next hb31 B3.lt
      have hbe := below_join hbe hb31
      have hbr := below_join hbr hb31
      clear hb31 hg7 hs31
      clear d0 d1 d2
      go_wp2_with (with_reducible refine wpList_put (o := ⟨none, .store 33 (.tmp 7) (.tmp 19), _, _, _, _⟩) (by with_unfolding_all rfl) 33 (.tmp 7) (.tmp 19) (by with_unfolding_all rfl) g7 0 (by with_unfolding_all rfl) (.agg #[.string fm, .int .i64 (a : Int), .int .i64 (b : Int)]) (by with_unfolding_all rfl) B7 [Value.string fm, .int .i64 (a : Int), .int .i64 (b : Int)] (by with_unfolding_all rfl) (by with_unfolding_all (first | exact Tryd.szF | (simp only [H_length, Pat.cells_length, List.length_append]; exact Tryd.szF))) (by with_unfolding_all (first | exact Nat.le_refl 3 | (simp only [H_length, Pat.cells_length, List.length_append]; omega))) (by with_unfolding_all (exact fields_one _ _ _)) ?_)
      intro w32 hu32 C7
      rw [splice_all _ _ (by rfl)] at C7
      have B3 := B3.upd hu32 ne3_7
      have hbe := hbe.trans (hu32.below (B := w.heap.size) hl7)
      have hbr := hbr.trans (hu32.below (B := wr.heap.size) hr7)
      clear B7 hu32
      have B7 := C7
      clear C7
      go_wp2
      have hdd := below_drew w32
      have B3 := B3.next hdd B3.lt
      have B7 := B7.next hdd B7.lt
      have hbe := below_join hbe hdd
      have hbr := below_join hbr hdd
      have zz7_2 : (Tryd.prog.info? 33).map (·.size) = some [Value.string fm, .int .i64 (a : Int), .int .i64 (b : Int)].length := (by first | exact Tryd.szF | (simp only [H_length, Pat.cells_length, List.length_append]; exact Tryd.szF))
      have zz3_3 : (Tryd.prog.info? 30).map (·.size) = some (H h).length := (by first | exact Tryd.szH | (simp only [H_length, Pat.cells_length, List.length_append]; exact Tryd.szH))
      refine wp_region_held_drew (S := fun w' => w'.cell? ⟨g7, 0, none⟩ = some (Value.string fm) ∧ w'.rangeAt g7 0 [Value.string fm, .int .i64 (a : Int), .int .i64 (b : Int)] ∧ w'.rangeAt g3 0 (H h)) (by kernel_rfl) ⟨B7.cell (k := 0) rfl, blk_range B7, blk_range B3⟩ (fun hHeld => ?_)
      clear hdd
      generalize w32.drew = w33 at B3 B7 hbe hHeld  hbr ⊢
      refine wpAnyH_take (i := 0) (v := ?vqaa0) rfl (by kernel_rfl) (by kernel_rfl) (by kernel_rfl) (fun _ _ _ h => h) (Or.inl ⟨by rfl, ?yqaa0⟩) (by assumption) ?rqaa0
      case yqaa0 => intro w hSw; (try dsimp only at hSw); go_simp <;> (try with_reducible rfl)
      (try simp only [List.getElem_toArray, List.getElem_cons_zero, Act.put, List.setIfInBounds_toArray, List.set_cons_zero, List.set_cons_succ])
      refine wpAnyH_take (i := 1) (v := ?vqaa1) rfl (by kernel_rfl) (by kernel_rfl) (by kernel_rfl) (fun _ _ _ h => h) (Or.inl ⟨by rfl, ?yqaa1⟩) (by assumption) ?rqaa1
      case yqaa1 => intro w hSw; have hSc := hSw.1; go_simp <;> (try with_reducible rfl)
      (try simp only [List.getElem_toArray, List.getElem_cons_succ, List.getElem_cons_zero, Act.put, List.setIfInBounds_toArray, List.set_cons_zero, List.set_cons_succ])
      refine' wpAnyH_take (i := 2) (v := _) rfl (by kernel_rfl) (by kernel_rfl) (by kernel_rfl) (fun _ _ _ h => h) (yieldsIf_load_mid (by rfl) _ _ (by rfl) _ _ (by rfl) _ _ ?Sqaa2 ?uqaa2 ?dqaa2 ?iqaa2) (by assumption) ?rqaa2
      case Sqaa2 => exact (by intro w h; exact h.2.1)
      case uqaa2 => exact Tryd.underlying33
      case dqaa2 => rfl
      case iqaa2 => exact zz7_2
      (try simp only [List.getElem_toArray, List.getElem_cons_succ, List.getElem_cons_zero, Act.put, List.setIfInBounds_toArray, List.set_cons_zero, List.set_cons_succ])
      refine' wpAnyH_take (i := 3) (v := _) rfl (by kernel_rfl) (by kernel_rfl) (by kernel_rfl) (fun _ _ _ h => h) (yieldsIf_load_mid (by rfl) _ _ (by rfl) _ _ (by rfl) _ _ ?Sqaa3 ?uqaa3 ?dqaa3 ?iqaa3) (by assumption) ?rqaa3
      case Sqaa3 => exact (by intro w h; exact h.2.2)
      case uqaa3 => exact Tryd.underlying30
      case dqaa3 => rfl
      case iqaa3 => exact zz3_3
      (try simp only [List.getElem_toArray, List.getElem_cons_succ, List.getElem_cons_zero, Act.put, List.setIfInBounds_toArray, List.set_cons_zero, List.set_cons_succ])
      refine wpAnyH_ready (rs := [4]) (by kernel_rfl) (by simp) ?_
      refine AllReadyH.cons rfl (fun K hK => ?_) AllReadyH.nil
      go_simp
      go_wp2_with fail
      (with_reducible refine (HGE.out _).mono ?_)
      rintro e w34 ⟨rfl, hb34⟩
      have B3 := B3.next hb34 B3.lt
      have B7 := B7.next hb34 B7.lt
      have hbe := below_join hbe hb34
      have hbr := below_join hbr hb34
      refine hK.out _ _ ⟨B7.cell (k := 0) rfl, blk_range B7, blk_range B3⟩ (fun hHeld => ?_)
      clear hK K hb34
      refine wpAnyH_ready (rs := [5]) (by kernel_rfl) (by simp) ?_
      refine AllReadyH.cons rfl (fun K hK => ?_) AllReadyH.nil
      go_simp
      go_wp2_with fail
      (with_reducible refine (itoaF_any (V : Int) _ hV0 hV9 (HQ.out.next hbe)).mono ?_)
      rintro e w35 ⟨rfl, hb35⟩
      have B3 := B3.next hb35 B3.lt
      have B7 := B7.next hb35 B7.lt
      have hbe := below_join hbe hb35
      have hbr := below_join hbr hb35
      refine hK.out _ _ ⟨B7.cell (k := 0) rfl, blk_range B7, blk_range B3⟩ (fun hHeld => ?_)
      clear hK K hb35
      refine wpAnyH_ready (rs := [6]) (by kernel_rfl) (by simp) ?_
      refine AllReadyH.cons rfl (fun K hK => ?_) AllReadyH.nil
      rw [if_pos (by rfl)]
      have hpre := hbr.size
      refine wp_strs 4 #[(0, .const (.string { data := #[32] })), (1, .tmp 21), (2, .const (.string { data := #[61] })), (3, .tmp 25)] rfl #[(0, .string ({ data := #[32] } : ByteArray)), (1, .string fm), (2, .string ({ data := #[61] } : ByteArray)), (3, .string (⟨(Lib.itoa (V : Int)).toArray⟩ : ByteArray))] (by with_unfolding_all rfl) [({ data := #[32] } : ByteArray), fm, ({ data := #[61] } : ByteArray), (⟨(Lib.itoa (V : Int)).toArray⟩ : ByteArray)] (fun w => run_s4 w ({ data := #[32] } : ByteArray) fm ({ data := #[61] } : ByteArray) (⟨(Lib.itoa (V : Int)).toArray⟩ : ByteArray)) ?_
      intro gs w36 hgs hb36 BS
      have B3 := B3.next hb36 B3.lt
      have B7 := B7.next hb36 B7.lt
      have hbe := below_join hbe hb36
      have hbr := below_join hbr hb36
      have hnes : g5 ≠ gs := by have := HB.out.2; have := hpre; have := hgs.out; omega
      refine hK.out _ _ ⟨B7.cell (k := 0) rfl, blk_range B7, blk_range B3⟩ (fun hHeld => ?_)
      clear hK K hb36 hgs hpre
      refine wpAnyH_ready (rs := [7]) (by kernel_rfl) (by simp) ?_
      refine AllReadyH.cons rfl (fun K hK => ?_) AllReadyH.nil
      go_simp
      go_wp2_with fail
      have HWR := Lib.hid (write_any g5 gs 4 _ [({ data := #[32] } : ByteArray), fm, ({ data := #[61] } : ByteArray), (⟨(Lib.itoa (V : Int)).toArray⟩ : ByteArray)] 4 _ rfl (by decide) (HB.out.next hbr) BS hnes HJL.out)
      (with_reducible refine HWR.out.mono ?_)
      rintro e w37 ⟨rfl, hB37, hb37, ho37⟩
      have B3 := B3.next hb37 lt3_5
      have B7 : Blk w37 g7 33 [Value.string fm, .int .i64 (a : Int), .int .i64 (b : Int)] := ho37 g7 _ B7 (by intro e; injection e with e; have := HB.out.2; omega) (by
        intro c fz e
        injection e with _ e _
        exact absurd e (by decide))
      have hbe := hbe.trans (hb37.mono hl5)
      have HB9 : Hid (Bld w37 g5 (showTo l h (k + 1))) := by
        have : Bld w37 g5 (showTo l h (k + 1)) := by rw [HSN.out]; exact hB37
        exact this
      refine hK.out _ _ ⟨B7.cell (k := 0) rfl, blk_range B7, blk_range B3⟩ (fun hHeld => ?_)
      clear hK K hb37 ho37 hB37 HWR BS hnes
      refine wpAnyH_done (by kernel_rfl) ?_ _
      clear hHeld zz7_2 zz3_3
      clear HB B7
      go_wp2
      go_roundw
      case rel => exact ⟨k + 1, by omega, by go_num, HB9.out, B3, hbe⟩
      case measure => simp [intOf]; omega
    · obtain rfl : k = n := by omega
      obtain ⟨x9, hx9'⟩ : ∃ x, word h 9 = x := ⟨_, rfl⟩
      have hx96 := word_lt h 9
      have c9 := B3.cell (HH.out 9 (by decide))
      rw [hx9'] at c9 hx96
      by_cases hz9 : x9 = 0
      · have hres : Hid (RES = showTo l h k) := by
          have : RES = showTo l h k := by rw [← hRES.out]; unfold showT showG; rw [hx9', if_pos hz9, hn.out, List.append_nil]
          exact this
        subst hz9
        have HRD := Lib.hid (readS_any g5 _ wr HB.out)
        clear HB hx9'
        go_wp2_with fail
        (with_reducible refine HRD.out.mono ?_)
        rintro e w9 ⟨rfl, hb9⟩
        have hbe := hbe.trans (hb9.mono hl5)
        go_wp2
        go_ret
        exact ⟨by rw [hres.out]; rfl, hbe⟩
      · have hz9b : ((x9 : Int) != 0) = true := by rw [bne_iff_ne]; omega
        have hz9c : (x9 != 0) = true := by rw [bne_iff_ne]; exact hz9
        have hz9d : ¬ ((x9 : Int) = 0) := by omega
        have hx90 : (0 : Int) ≤ (x9 : Int) := by omega
        have hx99 : (x9 : Int) ≤ 65536 := by omega
        have hi21 := itoa_21 x9 (by omega)
        have hres : Hid (RES = showTo l h k ++ joinB [({ data := #[32] } : ByteArray), ({ data := #[116, 97, 103] } : ByteArray), ({ data := #[61] } : ByteArray), (⟨(Lib.itoa (x9 : Int)).toArray⟩ : ByteArray)]) := by
          have : RES = showTo l h k ++ joinB [({ data := #[32] } : ByteArray), ({ data := #[116, 97, 103] } : ByteArray), ({ data := #[61] } : ByteArray), (⟨(Lib.itoa (x9 : Int)).toArray⟩ : ByteArray)] := by rw [← hRES.out]; unfold showT showG; rw [hx9', if_neg hz9, hn.out]; simp [joinB]
          exact this
        clear hx9'
        go_wp2_with fail
        (with_reducible refine (itoaF_any (x9 : Int) _ hx90 hx99 (HQ.out.next hbe)).mono ?_)
        rintro e w61 ⟨rfl, hb61⟩
        clear c9
        have B3 := B3.next hb61 B3.lt
        have HB := Lib.hid (HB.out.next hb61)
        have hbe := below_join hbe hb61
        clear hb61
        have HB0 := HB
        have hlenA : (showTo l h k).length + (joinB [({ data := #[32] } : ByteArray), ({ data := #[116, 97, 103] } : ByteArray), ({ data := #[61] } : ByteArray), (⟨(Lib.itoa (x9 : Int)).toArray⟩ : ByteArray)]).length ≤ 1000000 := by
          have e : (joinB [({ data := #[32] } : ByteArray), ({ data := #[116, 97, 103] } : ByteArray), ({ data := #[61] } : ByteArray), (⟨(Lib.itoa (x9 : Int)).toArray⟩ : ByteArray)]).length = 1 + (3 + (1 + (Lib.itoa (x9 : Int)).length)) := by
            unfold joinB
            simp only [List.flatMap_cons, List.flatMap_nil, List.length_append, List.append_nil, bytes_size, arr_len]
            rfl
          rw [e]; omega
        go_wp2_with (with_reducible refine wpList_strs (o := ⟨some 35, .buildSlice 28 4 #[(0, .const (.string { data := #[32] })), (1, .const (.string { data := #[116, 97, 103] })), (2, .const (.string { data := #[61] })), (3, .tmp 34)], _, _, _, _⟩) (by with_unfolding_all rfl) 4 #[(0, .const (.string { data := #[32] })), (1, .const (.string { data := #[116, 97, 103] })), (2, .const (.string { data := #[61] })), (3, .tmp 34)] (by with_unfolding_all rfl) #[(0, .string ({ data := #[32] } : ByteArray)), (1, .string ({ data := #[116, 97, 103] } : ByteArray)), (2, .string ({ data := #[61] } : ByteArray)), (3, .string (⟨(Lib.itoa (x9 : Int)).toArray⟩ : ByteArray))] (by with_unfolding_all rfl) [({ data := #[32] } : ByteArray), ({ data := #[116, 97, 103] } : ByteArray), ({ data := #[61] } : ByteArray), (⟨(Lib.itoa (x9 : Int)).toArray⟩ : ByteArray)] (by with_unfolding_all exact fun w => run_s4 w ({ data := #[32] } : ByteArray) ({ data := #[116, 97, 103] } : ByteArray) ({ data := #[61] } : ByteArray) (⟨(Lib.itoa (x9 : Int)).toArray⟩ : ByteArray)) ?_)
        intro gs62 w62 hgs62 hbs62 BS62
        have B3 := B3.next hbs62 B3.lt
        have HB := Lib.hid (HB.out.next hbs62)
        have hne62 : g5 ≠ gs62 := by have := HB0.out.2; have := hgs62.out; omega
        have hbe := below_join hbe hbs62
        have HWR := Lib.hid (write_any g5 gs62 4 _ [({ data := #[32] } : ByteArray), ({ data := #[116, 97, 103] } : ByteArray), ({ data := #[61] } : ByteArray), (⟨(Lib.itoa (x9 : Int)).toArray⟩ : ByteArray)] 4 w62 rfl (by decide) HB.out BS62 hne62 (by exact hlenA))
        clear hbs62 hgs62 BS62 hne62 HB HB0
        go_wp2_with fail
        (with_reducible refine HWR.out.mono ?_)
        rintro e w63 ⟨rfl, hB63, hb63, _⟩
        have B3 := B3.next hb63 lt3_5
        have hbe := hbe.trans (hb63.mono hl5)
        have HB : Hid (Bld w63 g5 (RES)) := by
          have : Bld w63 g5 (RES) := by
            rw [show (RES) = showTo l h k ++ joinB [({ data := #[32] } : ByteArray), ({ data := #[116, 97, 103] } : ByteArray), ({ data := #[61] } : ByteArray), (⟨(Lib.itoa (x9 : Int)).toArray⟩ : ByteArray)] from hres.out]
            exact hB63
          exact this
        clear hB63 hb63 HWR
        have HRD := Lib.hid (readS_any g5 _ _ HB.out)
        clear HB
        go_wp2_with fail
        (with_reducible refine HRD.out.mono ?_)
        rintro e w99 ⟨rfl, hb9⟩
        have hbe := hbe.trans (hb9.mono hl5)
        go_wp2
        go_ret
        exact ⟨rfl, hbe⟩
end Go.Proofs.YtbgndopgllnmaaaDoor

/-
  Contract of the walk over the statements' own sanity: it returns true. Conditions: the library's variables lie there.
-/
namespace Go.Proofs.YtbgndopgllnmaaaDoor
set_option linter.unusedVariables false
set_option linter.unusedSimpArgs false
open Go.RowKit Go.Shelf
set_option linter.unusedVariables false

def fCells (f : Fd) : List Value := [.string f.nm, .int .i64 f.at_, .int .i64 f.wd]
def flatF (l : List Fd) : List Value := l.flatMap fCells
theorem flatF_get : ∀ {l : List Fd} {k : Nat} {f : Fd} {R : List Value}, l[k]? = some f → (flatF l ++ R)[k * 3]? = some (.string f.nm) ∧ (flatF l ++ R)[k * 3 + 1]? = some (.int .i64 f.at_) ∧ (flatF l ++ R)[k * 3 + 2]? = some (.int .i64 f.wd)
  | [], _, _, _, h => by cases h
  | x :: l, 0, f, R, h => by injection h with h; subst h; exact ⟨rfl, rfl, rfl⟩
  | x :: l, k + 1, f, R, h => by
    have ih := flatF_get (R := R) (l := l) (k := k) h
    have e : flatF (x :: l) ++ R = fCells x ++ (flatF l ++ R) := by unfold flatF; rw [List.flatMap_cons, List.append_assoc]
    rw [e, show (k + 1) * 3 = k * 3 + 3 by omega]
    exact ih
theorem fsAt_flat {w : World} {g : Nat} {t : TypeId} {l : List Fd} {R : List Value} (h : Blk w g t (flatF l ++ R)) : FsAt w (some ⟨g, 0, none⟩) l := fun k f hf => by
  obtain ⟨h1, h2, h3⟩ := flatF_get (R := R) hf
  exact ⟨g, 0, rfl, by rw [Nat.zero_add]; exact h.cell h1, by rw [Nat.zero_add]; exact h.cell h2, by rw [Nat.zero_add]; exact h.cell h3⟩
theorem fsAt_own {w : World} {T c : Nat} {A : Option Addr} {l : List Fd} {n : Nat} (hn : l.length = n) (hp : 0 < n) (h : w.ownsRow T 33 3 (.slice A n c) n (flatF l)) : ∃ g R, A = some ⟨g, 0, none⟩ ∧ T ≤ g ∧ n ≤ c ∧ Blk w g 33 (flatF l ++ R) := by
  rcases h.2 with ⟨_, h0⟩ | ⟨g, cap, cur, hv, hb, h3, hnc, _, _, ht⟩
  · omega
  · injection hv with hA _ hc
    subst hc
    refine ⟨g, cur.toList.drop (n * 3), hA, hb, hnc, ?_⟩
    have e : flatF l ++ cur.toList.drop (n * 3) = cur.toList := by rw [← ht, List.take_append_drop]
    rw [e]
    exact h3
theorem infoF8 : ∃ i, Tryd.prog.info? 33 = some i ∧ i.zero = some (.agg #[.string ByteArray.empty, .int .i64 0, .int .i64 0]) ∧ i.size = 3 ∧ i.bytes = 32 := by
  have h : (Tryd.prog.info? 33).map (fun i => (i.zero, i.size, i.bytes)) = some (some (.agg #[.string ByteArray.empty, .int .i64 0, .int .i64 0]), 3, 32) := by kernel_rfl
  cases hq : Tryd.prog.info? 33 with
  | none => simp [hq] at h
  | some i =>
    simp [hq] at h
    exact ⟨i, rfl, h.1, h.2.1, h.2.2⟩
theorem run_emp (w : World) : (Instr.buildSlice 22 0 #[]).run Tryd.prog w = .ok (.slice (some ⟨w.heap.size, 0, none⟩) 0 0) (w.alloc (.cells #[] 33)) := by kernel_rfl
theorem wpList_emp {ops : Array Oper} {rest : List Oper} {o : Oper} {a : Act} {w : World} {Q : Exit → Act → World → Prop} (hgd : o.guard = none) (ho : o.op = .buildSlice 22 0 #[])
    (h : ∀ g w', Hid (g = w.heap.size) → Below w.heap.size w w' → w'.ownsRow g 33 3 (.slice (some ⟨g, 0, none⟩) 0 0) 0 [] → wpList Tryd.prog ops Q rest (a.put o.dst (.slice (some ⟨g, 0, none⟩) 0 0)) w') : wpList Tryd.prog ops Q (o :: rest) a w := by
  refine wpList_plain hgd fun K hK => ?_
  have hr := run_emp w
  unfold Oper.wp execOp
  simp only [ho]
  simp [hr]
  exact hK _ _ (h _ _ rfl (below_new w _) ⟨rfl, .inr ⟨_, 0, #[], rfl, Nat.le_refl _, heap_alloc_new w _, Nat.le_refl _, Nat.zero_le _, rfl, rfl⟩⟩)
theorem wpList_appF {ops : Array Oper} {rest : List Oper} {o : Oper} {a : Act} {w : World} {Q : Exit → Act → World → Prop} (hgd : o.guard = none) (s x : Operand)
    (ho : o.op = .call { callee := .builtin .append, args := #[s, x], argTypes := #[22, 22] }) (base : Nat) (v : Value) (n : Nat) (xs : List Value) (hs : a.eval s = v) (hown : w.ownsRow base 33 3 v n xs)
    (g m c : Nat) (ys : List Value) (hx : a.eval x = .slice (some ⟨g, 0, none⟩) m c) (hg : ∀ j y, ys[j]? = some y → w.cell? ⟨g, j, none⟩ = some y) (hy : ys.length = m * 3) (h1 : ∀ u ∈ ys, u.oneCell' = true) (hn : n + m ≤ 100) (hbase : base ≤ w.heap.size)
    (h : ∀ v' w', w'.ownsRow base 33 3 v' (n + m) (xs ++ ys) → w.grownBy w' v.ownBlock → wpList Tryd.prog ops Q rest (a.put o.dst v') w') : wpList Tryd.prog ops Q (o :: rest) a w := by
  refine wpList_plain hgd fun K hK => ?_
  obtain ⟨i, i1, i2, i3, i4⟩ := infoF8
  obtain ⟨v', w', hr, r1, r2, _⟩ := run_append_own (P := Tryd.prog) w base 22 o.type 33 i _ 3 32 Tryd.underlying22 i1 i2 i3 i4 rfl (by decide) v n xs hown ⟨g, 0, none⟩ m c ys hy (fun j y hj => by
    rw [addr_mid, Nat.zero_add]
    exact hg j y hj) h1 (by show n + m ≤ maxLen; unfold maxLen; omega) (by omega) hbase
  unfold Oper.wp
  simp [execOp, ho, resolve, invoke, builtin, hs, hx, hr, Result.andThen]
  exact hK _ _ (h v' w' r1 r2)
theorem run_i75 (w : World) : (Instr.buildSlice 38 2 #[(0, .int .i64 7), (1, .int .i64 5)]).run Tryd.prog w = .ok (.slice (some ⟨w.heap.size, 0, none⟩) 2 2) (w.alloc (.cells [Value.int .i64 7, .int .i64 5].toArray 3)) := by kernel_rfl
theorem wpList_i75 {ops : Array Oper} {rest : List Oper} {o : Oper} {a : Act} {w : World} {Q : Exit → Act → World → Prop} (hw : Region.wanted o (yielded ops a.tmps) = true) (ho : o.op = .buildSlice 38 2 #[(0, .const (.int .i64 7)), (1, .const (.int .i64 5))])
    (h : ∀ g w', Hid (g = w.heap.size) → Below w.heap.size w w' → Blk w' g 3 [Value.int .i64 7, .int .i64 5] → wpList Tryd.prog ops Q rest (a.put o.dst (.slice (some ⟨g, 0, none⟩) 2 2)) w') : wpList Tryd.prog ops Q (o :: rest) a w := by
  refine BigFrame.wpList_want hw fun K hK => ?_
  have hr := run_i75 w
  have e : ∀ v, a.eval (.const v) = v := fun _ => rfl
  unfold Oper.wp execOp
  simp only [ho, List.map_toArray, List.map_cons, List.map_nil, e, Sem.run_bind, Sem.run_pure, Result.andThen_ok, hr]
  exact hK _ _ (h _ _ rfl (below_new w _) (blk_new w _ _))
theorem run_idx3 (w : World) : (Instr.index 30 (.agg #[.int .i64 5, .int .i64 4660, .int .i64 8192, .int .i64 0, .int .i64 0, .int .i64 0, .int .i64 0, .int .i64 0, .int .i64 0, .int .i64 0]) (.int .i64 2)).run Tryd.prog w = .ok (.int .i64 8192) w := by kernel_rfl
theorem wpList_idx3 {ops : Array Oper} {rest : List Oper} {o : Oper} {a : Act} {w : World} {Q : Exit → Act → World → Prop} (hw : Region.wanted o (yielded ops a.tmps) = true) (x : Operand) (ho : o.op = .index 30 x (.const (.int .i64 2)))
    (hx : a.eval x = .agg #[.int .i64 5, .int .i64 4660, .int .i64 8192, .int .i64 0, .int .i64 0, .int .i64 0, .int .i64 0, .int .i64 0, .int .i64 0, .int .i64 0]) (h : wpList Tryd.prog ops Q rest (a.put o.dst (.int .i64 8192)) w) : wpList Tryd.prog ops Q (o :: rest) a w := by
  refine BigFrame.wpList_want hw fun K hK => ?_
  have e : ∀ v, a.eval (.const v) = v := fun _ => rfl
  unfold Oper.wp execOp
  simp only [ho, hx, e, run_idx3, Sem.run_bind, Sem.run_pure, Result.andThen_ok]
  exact hK _ _ h
theorem isAt_blk {w : World} {g : Nat} {t : TypeId} {l : List Int} (h : Blk w g t (l.map intV)) : IsAt w (some ⟨g, 0, none⟩) l := fun k x hx => ⟨g, 0, rfl, by rw [Nat.zero_add]; exact h.cell (by rw [List.getElem?_map, hx]; rfl)⟩
theorem stAt_blk {w : World} {g : Nat} {t : TypeId} {l : List ByteArray} (h : Blk w g t (l.map Value.string)) : StAt w (some ⟨g, 0, none⟩) l := fun k x hx => ⟨g, 0, rfl, by rw [Nat.zero_add]; exact h.cell (by rw [List.getElem?_map, hx]; rfl)⟩
/-- The examples' head. -/
def hF : Nat → Bool := bitsOf [5, 4660, 28672, 0, 0, 0, 0, 0, 0, 0]
theorem hF_cells : (H hF).toArray = #[.int .i64 5, .int .i64 4660, .int .i64 28672, .int .i64 0, .int .i64 0, .int .i64 0, .int .i64 0, .int .i64 0, .int .i64 0, .int .i64 0] := by kernel_rfl
theorem run_hF (w : World) : (Instr.build 30 #[(0, .int .i64 5), (1, .int .i64 4660), (2, .int .i64 28672)]).run Tryd.prog w = .ok (.agg (H hF).toArray) w := by
  rw [hF_cells]
  kernel_rfl
theorem ex_lies : ∀ f ∈ exampleF, ∃ a n : Nat, f.at_ = (a : Int) ∧ f.wd = (n : Int) ∧ Lies a n := by
  intro f hf
  simp only [exampleF, List.mem_cons, List.mem_nil_iff, or_false] at hf
  rcases hf with rfl | rfl | rfl
  · exact ⟨16, 8, rfl, rfl, ⟨by decide, by decide, by decide⟩⟩
  · exact ⟨24, 8, rfl, rfl, ⟨by decide, by decide, by decide⟩⟩
  · exact ⟨33, 3, rfl, rfl, ⟨by decide, by decide, by decide⟩⟩
theorem ex_size : ∀ f ∈ exampleF, f.nm.size ≤ 1000 := by
  intro f hf
  simp only [exampleF, List.mem_cons, List.mem_nil_iff, or_false] at hf
  rcases hf with rfl | rfl | rfl <;> decide
theorem exC_flat : exC = flatF exampleF ++ [] := rfl
theorem exB {w : World} {g : Nat} (h : Blk w g 33 exC) : FsAt w (some ⟨g, 0, none⟩) exampleF := fsAt_flat (R := []) h
def wrongF : List Fd := [⟨dstB, 16, 8⟩, ⟨srcB, 24, 8⟩, ⟨kindB, 30, 3⟩]
def doubleF : List Fd := exampleF ++ [⟨dstB, 16, 8⟩]
def pE : List Value := [Value.int .i64 0, Value.int .i64 255, Value.int .i64 0, Value.int .i64 0, Value.int .i64 0, Value.int .i64 0, Value.int .i64 0, Value.int .i64 0, Value.int .i64 0, Value.int .i64 0, Value.int .i64 0, Value.int .i64 52, Value.int .i64 0, Value.int .i64 0, Value.int .i64 0, Value.int .i64 0, Value.int .i64 0, Value.int .i64 0, Value.int .i64 0, Value.int .i64 0]
def pQ : List Value := [Value.int .i64 0, Value.int .i64 57344, Value.int .i64 0, Value.int .i64 0, Value.int .i64 0, Value.int .i64 0, Value.int .i64 0, Value.int .i64 0, Value.int .i64 0, Value.int .i64 0, Value.int .i64 0, Value.int .i64 0, Value.int .i64 0, Value.int .i64 0, Value.int .i64 0, Value.int .i64 0, Value.int .i64 0, Value.int .i64 0, Value.int .i64 0, Value.int .i64 0]
theorem int_cells_one {l : List Int} : ∀ u ∈ l.map intV, u.oneCell' = true := by
  intro u hu
  obtain ⟨x, _, rfl⟩ := List.mem_map.1 hu
  rfl
theorem pE_one : ∀ u ∈ pE, u.oneCell' = true := by
  have : pE = ([0, 255, 0, 0, 0, 0, 0, 0, 0, 0, 0, 52, 0, 0, 0, 0, 0, 0, 0, 0] : List Int).map intV := rfl
  rw [this]; exact int_cells_one
theorem pQ_one : ∀ u ∈ pQ, u.oneCell' = true := by
  have : pQ = ([0, 57344, 0, 0, 0, 0, 0, 0, 0, 0, 0, 0, 0, 0, 0, 0, 0, 0, 0, 0] : List Int).map intV := rfl
  rw [this]; exact int_cells_one
theorem exC_one : ∀ u ∈ exC, u.oneCell' = true := by
  intro u hu
  simp only [exC, List.mem_cons, List.mem_nil_iff, or_false] at hu
  rcases hu with rfl | rfl | rfl | rfl | rfl | rfl | rfl | rfl | rfl <;> rfl
/-- What the examples' calls answer. -/
structure SaneF : Prop where
  f1 : ∀ (w : World) (g : Nat) (h : Blk w g 33 exC), Calls Tryd.prog 14 #[.slice (some ⟨g, 0, none⟩) 3 3, .string { data := #[100, 115, 116] }] w fun e w' => e = .returned (.tuple #[.agg #[.string { data := #[100, 115, 116] }, .int .i64 16, .int .i64 8], .bool true]) ∧ Below w.heap.size w w'
  f2 : ∀ (w : World) (g : Nat) (h : Blk w g 33 exC), Calls Tryd.prog 14 #[.slice (some ⟨g, 0, none⟩) 3 3, .string { data := #[115, 114, 99] }] w fun e w' => e = .returned (.tuple #[.agg #[.string { data := #[115, 114, 99] }, .int .i64 24, .int .i64 8], .bool true]) ∧ Below w.heap.size w w'
  f3 : ∀ (w : World) (g : Nat) (h : Blk w g 33 exC), Calls Tryd.prog 14 #[.slice (some ⟨g, 0, none⟩) 3 3, .string { data := #[107, 105, 110, 100] }] w fun e w' => e = .returned (.tuple #[.agg #[.string { data := #[107, 105, 110, 100] }, .int .i64 33, .int .i64 3], .bool true]) ∧ Below w.heap.size w w'
  f4 : ∀ (w : World) (g : Nat) (h : Blk w g 33 exC), Calls Tryd.prog 14 #[.slice (some ⟨g, 0, none⟩) 3 3, .string { data := #[112, 111, 114, 116] }] w fun e w' => e = .returned (.tuple #[.agg #[.string { data := #[112, 111, 114, 116] }, .int .i64 0, .int .i64 16], .bool true]) ∧ Below w.heap.size w w'
  f5 : ∀ (w : World) (g : Nat) (h : Blk w g 33 exC), Calls Tryd.prog 14 #[.slice (some ⟨g, 0, none⟩) 3 3, .string { data := #[110, 111, 110, 101] }] w fun e w' => e = .returned (.tuple #[.agg #[.string ByteArray.empty, .int .i64 0, .int .i64 0], .bool false]) ∧ Below w.heap.size w w'
  k1 : ∀ (w : World) (g : Nat) (h : Blk w g 33 exC), Calls Tryd.prog 9 #[.slice (some ⟨g, 0, none⟩) 3 3] w fun e w' => e = .returned (.int .i64 0) ∧ Below w.heap.size w w'
  k2 : ∀ (w : World) (g c : Nat) (R : List Value) (hc : 4 ≤ c) (h : Blk w g 33 (flatF doubleF ++ R)), Calls Tryd.prog 9 #[.slice (some ⟨g, 0, none⟩) 4 c] w fun e w' => e = .returned (.int .i64 4) ∧ Below w.heap.size w w'
  k3 : ∀ (w : World) (g c : Nat) (R : List Value) (hc : 3 ≤ c) (h : Blk w g 33 (flatF wrongF ++ R)), Calls Tryd.prog 9 #[.slice (some ⟨g, 0, none⟩) 3 c] w fun e w' => e = .returned (.int .i64 1) ∧ Below w.heap.size w w'
  g1 : ∀ (w : World), Calls Tryd.prog 18 #[.agg #[.string { data := #[100, 115, 116] }, .int .i64 16, .int .i64 8], .agg (H hF).toArray] w fun e w' => e = .returned (.int .i64 18) ∧ Below w.heap.size w w'
  g2 : ∀ (w : World), Calls Tryd.prog 18 #[.agg #[.string { data := #[115, 114, 99] }, .int .i64 24, .int .i64 8], .agg (H hF).toArray] w fun e w' => e = .returned (.int .i64 52) ∧ Below w.heap.size w w'
  g3 : ∀ (w : World), Calls Tryd.prog 18 #[.agg #[.string { data := #[107, 105, 110, 100] }, .int .i64 33, .int .i64 3], .agg (H hF).toArray] w fun e w' => e = .returned (.int .i64 7) ∧ Below w.heap.size w w'
  g4 : ∀ (w : World), Calls Tryd.prog 18 #[.agg #[.string { data := #[112, 111, 114, 116] }, .int .i64 0, .int .i64 16], .agg (H hF).toArray] w fun e w' => e = .returned (.int .i64 5) ∧ Below w.heap.size w w'
  s1 : ∀ (w : World), Calls Tryd.prog 26 #[.agg #[.string { data := #[107, 105, 110, 100] }, .int .i64 33, .int .i64 3], .agg (H hF).toArray, .int .i64 2] w fun e w' => e = .returned (.agg #[.int .i64 5, .int .i64 4660, .int .i64 8192, .int .i64 0, .int .i64 0, .int .i64 0, .int .i64 0, .int .i64 0, .int .i64 0, .int .i64 0]) ∧ Below w.heap.size w w'
  e1 : ∀ (w : World), Calls Tryd.prog 28 #[.agg #[.string { data := #[115, 114, 99] }, .int .i64 24, .int .i64 8], .int .i64 52] w fun e w' => e = .returned (.agg pE.toArray) ∧ Below w.heap.size w w'
  p1 : ∀ (w : World), Calls Tryd.prog 29 #[.agg #[.string { data := #[100, 115, 116] }, .int .i64 16, .int .i64 8], .int .i64 18, .int .i64 3] w fun e w' => e = .returned (.agg pQ.toArray) ∧ Below w.heap.size w w'
  m1 : ∀ (w : World), Calls Tryd.prog 16 #[.agg #[.string { data := #[107, 105, 110, 100] }, .int .i64 33, .int .i64 3]] w fun e w' => e = .returned (.int .i64 7) ∧ Below w.heap.size w w'
  n1 : ∀ (w : World), Calls Tryd.prog 11 #[.string { data := #[97, 95, 49] }] w fun e w' => e = .returned (.bool true) ∧ Below w.heap.size w w'
  n2 : ∀ (w : World), Calls Tryd.prog 11 #[.string { data := #[49, 97] }] w fun e w' => e = .returned (.bool false) ∧ Below w.heap.size w w'
  t1 : ∀ (w : World), Calls Tryd.prog 41 #[.agg (H hF).toArray] w fun e w' => e = .returned (.string { data := #[48, 48, 48, 53, 46, 49, 50, 51, 52, 46, 55, 48, 48, 48, 46, 48, 48, 48, 48, 46, 48, 48, 48, 48, 46, 48, 48, 48, 48, 46, 48, 48, 48, 48, 46, 48, 48, 48, 48, 46, 48, 48, 48, 48, 46, 48, 48, 48, 48] }) ∧ Below w.heap.size w w'
  q1 : ∀ (w : World) (hq : QF w), Calls Tryd.prog 39 #[.string { data := #[48, 48, 48, 53, 46, 49, 50, 51, 52, 46, 55, 48, 48, 48, 46, 48, 48, 48, 48, 46, 48, 48, 48, 48, 46, 48, 48, 48, 48, 46, 48, 48, 48, 48, 46, 48, 48, 48, 48, 46, 48, 48, 48, 48, 46, 48, 48, 48, 48] }] w fun e w' => e = .returned (.tuple #[.agg (H hF).toArray, .int .i64 0]) ∧ Below w.heap.size w w'
  q2 : ∀ (w : World) (hq : QF w), Calls Tryd.prog 39 #[.string { data := #[48, 48, 48, 53] }] w fun e w' => e = .returned (.tuple #[.agg (H no).toArray, .int .i64 3]) ∧ Below w.heap.size w w'
  w1 : ∀ (w : World) (g : Nat) (h : Blk w g 33 exC) (hq : QF w), Calls Tryd.prog 23 #[.slice (some ⟨g, 0, none⟩) 3 3, .agg (H hF).toArray] w fun e w' => e = .returned (.string { data := #[112, 111, 114, 116, 61, 53, 32, 100, 115, 116, 61, 49, 56, 32, 115, 114, 99, 61, 53, 50, 32, 107, 105, 110, 100, 61, 55] }) ∧ Below w.heap.size w w'
  y1 : ∀ (w : World) (g g' : Nat) (h : Blk w g 33 exC) (h' : Blk w g' 9 ([({ data := #[107, 105, 110, 100] } : ByteArray), ({ data := #[112, 111, 114, 116] } : ByteArray)].map Value.string)), Calls Tryd.prog 20 #[.slice (some ⟨g, 0, none⟩) 3 3, .slice (some ⟨g', 0, none⟩) 2 2, .agg (H hF).toArray] w fun e w' => (∃ A c, e = .returned (.tuple #[.slice A 2 c, .bool true]) ∧ IsAt w' A [7, 5]) ∧ Below w.heap.size w w'
  i1 : ∀ (w : World) (A B : Option Addr) (c d : Nat) (h : IsAt w A [7, 5]) (h' : IsAt w B [7, 5]), Calls Tryd.prog 22 #[.slice A 2 c, .slice B 2 d] w fun e w' => e = .returned (.bool true) ∧ Below w.heap.size w w'
set_option maxRecDepth 100000 in
set_option maxHeartbeats 6400000 in
theorem saneF : SaneF where
  f1 w g h := (find_any (some ⟨g, 0, none⟩) 3 exampleF ({ data := #[100, 115, 116] } : ByteArray) w (by decide) (exB h)).mono fun e w' ⟨h, hb⟩ => ⟨h.trans (by kernel_rfl), hb⟩
  f2 w g h := (find_any (some ⟨g, 0, none⟩) 3 exampleF ({ data := #[115, 114, 99] } : ByteArray) w (by decide) (exB h)).mono fun e w' ⟨h, hb⟩ => ⟨h.trans (by kernel_rfl), hb⟩
  f3 w g h := (find_any (some ⟨g, 0, none⟩) 3 exampleF ({ data := #[107, 105, 110, 100] } : ByteArray) w (by decide) (exB h)).mono fun e w' ⟨h, hb⟩ => ⟨h.trans (by kernel_rfl), hb⟩
  f4 w g h := (find_any (some ⟨g, 0, none⟩) 3 exampleF ({ data := #[112, 111, 114, 116] } : ByteArray) w (by decide) (exB h)).mono fun e w' ⟨h, hb⟩ => ⟨h.trans (by kernel_rfl), hb⟩
  f5 w g h := (find_any (some ⟨g, 0, none⟩) 3 exampleF ({ data := #[110, 111, 110, 101] } : ByteArray) w (by decide) (exB h)).mono fun e w' ⟨h, hb⟩ => ⟨h.trans (by kernel_rfl), hb⟩
  k1 w g h := (check_any (some ⟨g, 0, none⟩) 3 exampleF w (by decide) (by decide) (fun f hf => Nat.le_trans (ex_size f hf) (by decide)) (exB h)).mono fun e w' ⟨h, hb⟩ => ⟨h.trans (by kernel_rfl), hb⟩
  k2 w g c R hc h := (check_any (some ⟨g, 0, none⟩) c doubleF w (by decide) hc (fun f hf => by
    rcases List.mem_append.1 hf with hf | hf
    · exact Nat.le_trans (ex_size f hf) (by decide)
    · rw [List.mem_singleton.1 hf]; decide) (fsAt_flat h)).mono fun e w' ⟨h, hb⟩ => ⟨h.trans (by kernel_rfl), hb⟩
  k3 w g c R hc h := (check_any (some ⟨g, 0, none⟩) c wrongF w (by decide) hc (fun f hf => by
    simp only [wrongF, List.mem_cons, List.mem_nil_iff, or_false] at hf
    rcases hf with rfl | rfl | rfl <;> decide) (fsAt_flat h)).mono fun e w' ⟨h, hb⟩ => ⟨h.trans (by kernel_rfl), hb⟩
  g1 w := (get_any ({ data := #[100, 115, 116] } : ByteArray) 16 8 hF w ⟨by decide, by decide, by decide⟩).mono fun e w' ⟨h, hb⟩ => ⟨h.trans (by kernel_rfl), hb⟩
  g2 w := (get_any ({ data := #[115, 114, 99] } : ByteArray) 24 8 hF w ⟨by decide, by decide, by decide⟩).mono fun e w' ⟨h, hb⟩ => ⟨h.trans (by kernel_rfl), hb⟩
  g3 w := (get_any ({ data := #[107, 105, 110, 100] } : ByteArray) 33 3 hF w ⟨by decide, by decide, by decide⟩).mono fun e w' ⟨h, hb⟩ => ⟨h.trans (by kernel_rfl), hb⟩
  g4 w := (get_any ({ data := #[112, 111, 114, 116] } : ByteArray) 0 16 hF w ⟨by decide, by decide, by decide⟩).mono fun e w' ⟨h, hb⟩ => ⟨h.trans (by kernel_rfl), hb⟩
  s1 w := (set_any ({ data := #[107, 105, 110, 100] } : ByteArray) 33 3 2 hF w ⟨by decide, by decide, by decide⟩ (by decide)).mono fun e w' ⟨h, hb⟩ => ⟨h.trans (by kernel_rfl), hb⟩
  e1 w := (equal_any ({ data := #[115, 114, 99] } : ByteArray) 24 8 52 w ⟨by decide, by decide, by decide⟩ (by decide)).mono fun e w' ⟨h, hb⟩ => ⟨h.trans (by kernel_rfl), hb⟩
  p1 w := (prefix_any ({ data := #[100, 115, 116] } : ByteArray) 16 8 18 3 w ⟨by decide, by decide, by decide⟩ (by decide) (by decide)).mono fun e w' ⟨h, hb⟩ => ⟨h.trans (by kernel_rfl), hb⟩
  m1 w := (max_any ({ data := #[107, 105, 110, 100] } : ByteArray) 33 3 w ⟨by decide, by decide, by decide⟩).mono fun e w' ⟨h, hb⟩ => ⟨h.trans (by kernel_rfl), hb⟩
  n1 w := (name_any ({ data := #[97, 95, 49] } : ByteArray) w (by decide)).mono fun e w' ⟨h, hb⟩ => ⟨h.trans (by kernel_rfl), hb⟩
  n2 w := (name_any ({ data := #[49, 97] } : ByteArray) w (by decide)).mono fun e w' ⟨h, hb⟩ => ⟨h.trans (by kernel_rfl), hb⟩
  t1 w := (ftext_any hF w).mono fun e w' ⟨h, hb⟩ => ⟨h.trans (by kernel_rfl), hb⟩
  q1 w hq := (fparse_any ({ data := #[48, 48, 48, 53, 46, 49, 50, 51, 52, 46, 55, 48, 48, 48, 46, 48, 48, 48, 48, 46, 48, 48, 48, 48, 46, 48, 48, 48, 48, 46, 48, 48, 48, 48, 46, 48, 48, 48, 48, 46, 48, 48, 48, 48, 46, 48, 48, 48, 48] } : ByteArray) w (by decide) hq).mono fun e w' ⟨h, hb⟩ => ⟨h.trans (by kernel_rfl), hb⟩
  q2 w hq := (fparse_any ({ data := #[48, 48, 48, 53] } : ByteArray) w (by decide) hq).mono fun e w' ⟨h, hb⟩ => ⟨h.trans (by kernel_rfl), hb⟩
  w1 w g h hq := (fshow_any (some ⟨g, 0, none⟩) 3 exampleF hF w (by decide) ex_lies ex_size (exB h) hq).mono fun e w' ⟨h, hb⟩ => ⟨h.trans (by kernel_rfl), hb⟩
  y1 w g g' h h' := (key_any (some ⟨g, 0, none⟩) (some ⟨g', 0, none⟩) 3 2 exampleF [({ data := #[107, 105, 110, 100] } : ByteArray), ({ data := #[112, 111, 114, 116] } : ByteArray)] hF w (by decide) (by decide) ex_lies (exB h) (stAt_blk h')).mono fun e w' ⟨h, hb⟩ => by
    have hk : keyL exampleF hF [({ data := #[107, 105, 110, 100] } : ByteArray), ({ data := #[112, 111, 114, 116] } : ByteArray)] = some [7, 5] := by kernel_rfl
    rw [hk] at h
    obtain ⟨A, c, he, ho⟩ := h
    exact ⟨⟨A, c, he, own_ints ho⟩, hb⟩
  i1 w A B c d h h' := (sameI_any A B c d [7, 5] [7, 5] w (by decide) (by decide) h h').mono fun e w' ⟨h, hb⟩ => ⟨h.trans (by rw [decide_eq_true rfl]), hb⟩
set_option maxRecDepth 100000 in
set_option maxHeartbeats 12800000 in
theorem sanity_any (w : World) (hQ : QF w) : Calls Tryd.prog 8 #[] w fun e w' => e = .returned (.bool true) ∧ Below w.heap.size w w' := by
  have HS := Lib.hid saneF
  have HQ := Lib.hid hQ
  have heqh : ∀ w, (binOp .eql 30 (.agg (H hF).toArray) (.agg (H hF).toArray)).run Tryd.prog w = .ok (.bool true) w := fun w => by rw [eqlH, decide_eq_true rfl]
  clear hQ
  go_enter Tryd.func8, Tryd.ntmps8
  go_wp2_with fail
  (with_reducible refine (example_any _).mono ?_)
  rintro e w1 ⟨g1, rfl, B1, hg1, hb1⟩
  have hl1 : w.heap.size ≤ g1 := Nat.le_of_eq hg1.out.symm
  have hbe : Below w.heap.size w w1 := hb1
  clear hb1 hg1
  go_wp2_with (first | (with_reducible refine wpList_build (o := ⟨some 27, .build 30 #[(0, .const (.int .i64 5)), (1, .const (.int .i64 4660)), (2, .const (.int .i64 28672))], _, _, _, _⟩) (by with_unfolding_all rfl) 30 #[(0, .const (.int .i64 5)), (1, .const (.int .i64 4660)), (2, .const (.int .i64 28672))] (by with_unfolding_all rfl) #[(0, .int .i64 5), (1, .int .i64 4660), (2, .int .i64 28672)] (by with_unfolding_all rfl) (.agg (H hF).toArray) (by with_unfolding_all exact fun w => run_hF w) ?_) | (with_reducible refine wpList_alloc (o := ⟨some 2, .alloc 30, _, _, _, _⟩) (by with_unfolding_all rfl) 30 (by with_unfolding_all rfl) (.agg (H no).toArray) (H no) (by exact Tryd.zeroH) (by with_unfolding_all rfl) ?_))
  intro g2 w2 hg2 hs2 hb2 B2
  have hl2 : w.heap.size ≤ g2 := Nat.le_trans hbe.size (Nat.le_of_eq hg2.out.symm)
  have ne1_2 : g1 ≠ g2 := by have := B1.lt; have := hg2.out; omega
  have ne2_1 := ne1_2.symm
  have hb2 := hb2.mono (Nat.le_of_eq hg2.out.symm)
  have B1 := B1.next hb2 B1.lt
  have hbe := below_join hbe hb2
  clear hb2 hg2 hs2
  go_wp2_with (with_reducible refine wpList_put (o := ⟨none, .store 30 (.tmp 2) (.tmp 27), _, _, _, _⟩) (by with_unfolding_all rfl) 30 (.tmp 2) (.tmp 27) (by with_unfolding_all rfl) g2 0 (by with_unfolding_all rfl) (.agg (H hF).toArray) (by with_unfolding_all rfl) B2 (H hF) (by with_unfolding_all rfl) (by with_unfolding_all (first | exact Tryd.szH | (simp only [H_length, Pat.cells_length, List.length_append]; exact Tryd.szH))) (by with_unfolding_all (first | exact Nat.le_refl 3 | (simp only [H_length, Pat.cells_length, List.length_append]; omega))) (by with_unfolding_all (exact H_one _)) ?_)
  intro w3 hu3 C2
  rw [splice_all _ _ (by simp only [H_length])] at C2
  have B1 := B1.upd hu3 ne1_2
  have hbe := hbe.trans (hu3.below (B := w.heap.size) hl2)
  clear B2 hu3
  have B2 := C2
  clear C2
  go_wp2_with fail
  (with_reducible refine (HS.out.f1 _ g1 B1).mono ?_)
  rintro e w4 ⟨rfl, hb4⟩
  have B1 := B1.next hb4 B1.lt
  have B2 := B2.next hb4 B2.lt
  have hbe := below_join hbe hb4
  clear hb4
  go_wp2_with (with_reducible refine wpList_alloc (o := ⟨some 3, .alloc 33, _, _, _, _⟩) (by with_unfolding_all rfl) 33 (by with_unfolding_all rfl) (.agg #[.string ByteArray.empty, .int .i64 0, .int .i64 0]) [Value.string ByteArray.empty, .int .i64 0, .int .i64 0] (by exact Tryd.zeroF) (by with_unfolding_all rfl) ?_)
  intro g3 w5 hg3 hs5 hb5 B3
  have hl3 : w.heap.size ≤ g3 := Nat.le_trans hbe.size (Nat.le_of_eq hg3.out.symm)
  have ne1_3 : g1 ≠ g3 := by have := B1.lt; have := hg3.out; omega
  have ne3_1 := ne1_3.symm
  have ne2_3 : g2 ≠ g3 := by have := B2.lt; have := hg3.out; omega
  have ne3_2 := ne2_3.symm
  have hb5 := hb5.mono (Nat.le_of_eq hg3.out.symm)
  have B1 := B1.next hb5 B1.lt
  have B2 := B2.next hb5 B2.lt
  have hbe := below_join hbe hb5
  clear hb5 hg3 hs5
  go_wp2_with (with_reducible refine wpList_put (o := ⟨none, .store 33 (.tmp 3) (.tmp 31), _, _, _, _⟩) (by with_unfolding_all rfl) 33 (.tmp 3) (.tmp 31) (by with_unfolding_all rfl) g3 0 (by with_unfolding_all rfl) (.agg #[.string { data := #[100, 115, 116] }, .int .i64 16, .int .i64 8]) (by with_unfolding_all rfl) B3 [Value.string { data := #[100, 115, 116] }, .int .i64 16, .int .i64 8] (by with_unfolding_all rfl) (by with_unfolding_all (first | exact Tryd.szF | (simp only [H_length, Pat.cells_length, List.length_append]; exact Tryd.szF))) (by with_unfolding_all (first | exact Nat.le_refl 3 | (simp only [H_length, Pat.cells_length, List.length_append]; omega))) (by with_unfolding_all (exact fields_one _ _ _)) ?_)
  intro w6 hu6 C3
  rw [splice_all _ _ (by rfl)] at C3
  have B1 := B1.upd hu6 ne1_3
  have B2 := B2.upd hu6 ne2_3
  have hbe := hbe.trans (hu6.below (B := w.heap.size) hl3)
  clear B3 hu6
  have B3 := C3
  clear C3
  go_wp2_with fail
  (with_reducible refine (HS.out.f2 _ g1 B1).mono ?_)
  rintro e w7 ⟨rfl, hb7⟩
  have B1 := B1.next hb7 B1.lt
  have B2 := B2.next hb7 B2.lt
  have B3 := B3.next hb7 B3.lt
  have hbe := below_join hbe hb7
  clear hb7
  go_wp2_with (with_reducible refine wpList_alloc (o := ⟨some 5, .alloc 33, _, _, _, _⟩) (by with_unfolding_all rfl) 33 (by with_unfolding_all rfl) (.agg #[.string ByteArray.empty, .int .i64 0, .int .i64 0]) [Value.string ByteArray.empty, .int .i64 0, .int .i64 0] (by exact Tryd.zeroF) (by with_unfolding_all rfl) ?_)
  intro g5 w8 hg5 hs8 hb8 B5
  have hl5 : w.heap.size ≤ g5 := Nat.le_trans hbe.size (Nat.le_of_eq hg5.out.symm)
  have ne1_5 : g1 ≠ g5 := by have := B1.lt; have := hg5.out; omega
  have ne5_1 := ne1_5.symm
  have ne2_5 : g2 ≠ g5 := by have := B2.lt; have := hg5.out; omega
  have ne5_2 := ne2_5.symm
  have ne3_5 : g3 ≠ g5 := by have := B3.lt; have := hg5.out; omega
  have ne5_3 := ne3_5.symm
  have hb8 := hb8.mono (Nat.le_of_eq hg5.out.symm)
  have B1 := B1.next hb8 B1.lt
  have B2 := B2.next hb8 B2.lt
  have B3 := B3.next hb8 B3.lt
  have hbe := below_join hbe hb8
  clear hb8 hg5 hs8
  go_wp2_with (with_reducible refine wpList_put (o := ⟨none, .store 33 (.tmp 5) (.tmp 36), _, _, _, _⟩) (by with_unfolding_all rfl) 33 (.tmp 5) (.tmp 36) (by with_unfolding_all rfl) g5 0 (by with_unfolding_all rfl) (.agg #[.string { data := #[115, 114, 99] }, .int .i64 24, .int .i64 8]) (by with_unfolding_all rfl) B5 [Value.string { data := #[115, 114, 99] }, .int .i64 24, .int .i64 8] (by with_unfolding_all rfl) (by with_unfolding_all (first | exact Tryd.szF | (simp only [H_length, Pat.cells_length, List.length_append]; exact Tryd.szF))) (by with_unfolding_all (first | exact Nat.le_refl 3 | (simp only [H_length, Pat.cells_length, List.length_append]; omega))) (by with_unfolding_all (exact fields_one _ _ _)) ?_)
  intro w9 hu9 C5
  rw [splice_all _ _ (by rfl)] at C5
  have B1 := B1.upd hu9 ne1_5
  have B2 := B2.upd hu9 ne2_5
  have B3 := B3.upd hu9 ne3_5
  have hbe := hbe.trans (hu9.below (B := w.heap.size) hl5)
  clear B5 hu9
  have B5 := C5
  clear C5
  go_wp2_with fail
  (with_reducible refine (HS.out.f3 _ g1 B1).mono ?_)
  rintro e w10 ⟨rfl, hb10⟩
  have B1 := B1.next hb10 B1.lt
  have B2 := B2.next hb10 B2.lt
  have B3 := B3.next hb10 B3.lt
  have B5 := B5.next hb10 B5.lt
  have hbe := below_join hbe hb10
  clear hb10
  go_wp2_with (with_reducible refine wpList_alloc (o := ⟨some 7, .alloc 33, _, _, _, _⟩) (by with_unfolding_all rfl) 33 (by with_unfolding_all rfl) (.agg #[.string ByteArray.empty, .int .i64 0, .int .i64 0]) [Value.string ByteArray.empty, .int .i64 0, .int .i64 0] (by exact Tryd.zeroF) (by with_unfolding_all rfl) ?_)
  intro g7 w11 hg7 hs11 hb11 B7
  have hl7 : w.heap.size ≤ g7 := Nat.le_trans hbe.size (Nat.le_of_eq hg7.out.symm)
  have ne1_7 : g1 ≠ g7 := by have := B1.lt; have := hg7.out; omega
  have ne7_1 := ne1_7.symm
  have ne2_7 : g2 ≠ g7 := by have := B2.lt; have := hg7.out; omega
  have ne7_2 := ne2_7.symm
  have ne3_7 : g3 ≠ g7 := by have := B3.lt; have := hg7.out; omega
  have ne7_3 := ne3_7.symm
  have ne5_7 : g5 ≠ g7 := by have := B5.lt; have := hg7.out; omega
  have ne7_5 := ne5_7.symm
  have hb11 := hb11.mono (Nat.le_of_eq hg7.out.symm)
  have B1 := B1.next hb11 B1.lt
  have B2 := B2.next hb11 B2.lt
  have B3 := B3.next hb11 B3.lt
  have B5 := B5.next hb11 B5.lt
  have hbe := below_join hbe hb11
  clear hb11 hg7 hs11
  go_wp2_with (with_reducible refine wpList_put (o := ⟨none, .store 33 (.tmp 7) (.tmp 41), _, _, _, _⟩) (by with_unfolding_all rfl) 33 (.tmp 7) (.tmp 41) (by with_unfolding_all rfl) g7 0 (by with_unfolding_all rfl) (.agg #[.string { data := #[107, 105, 110, 100] }, .int .i64 33, .int .i64 3]) (by with_unfolding_all rfl) B7 [Value.string { data := #[107, 105, 110, 100] }, .int .i64 33, .int .i64 3] (by with_unfolding_all rfl) (by with_unfolding_all (first | exact Tryd.szF | (simp only [H_length, Pat.cells_length, List.length_append]; exact Tryd.szF))) (by with_unfolding_all (first | exact Nat.le_refl 3 | (simp only [H_length, Pat.cells_length, List.length_append]; omega))) (by with_unfolding_all (exact fields_one _ _ _)) ?_)
  intro w12 hu12 C7
  rw [splice_all _ _ (by rfl)] at C7
  have B1 := B1.upd hu12 ne1_7
  have B2 := B2.upd hu12 ne2_7
  have B3 := B3.upd hu12 ne3_7
  have B5 := B5.upd hu12 ne5_7
  have hbe := hbe.trans (hu12.below (B := w.heap.size) hl7)
  clear B7 hu12
  have B7 := C7
  clear C7
  go_wp2_with fail
  (with_reducible refine (HS.out.f4 _ g1 B1).mono ?_)
  rintro e w13 ⟨rfl, hb13⟩
  have B1 := B1.next hb13 B1.lt
  have B2 := B2.next hb13 B2.lt
  have B3 := B3.next hb13 B3.lt
  have B5 := B5.next hb13 B5.lt
  have B7 := B7.next hb13 B7.lt
  have hbe := below_join hbe hb13
  clear hb13
  go_wp2_with (with_reducible refine wpList_alloc (o := ⟨some 9, .alloc 33, _, _, _, _⟩) (by with_unfolding_all rfl) 33 (by with_unfolding_all rfl) (.agg #[.string ByteArray.empty, .int .i64 0, .int .i64 0]) [Value.string ByteArray.empty, .int .i64 0, .int .i64 0] (by exact Tryd.zeroF) (by with_unfolding_all rfl) ?_)
  intro g9 w14 hg9 hs14 hb14 B9
  have hl9 : w.heap.size ≤ g9 := Nat.le_trans hbe.size (Nat.le_of_eq hg9.out.symm)
  have ne1_9 : g1 ≠ g9 := by have := B1.lt; have := hg9.out; omega
  have ne9_1 := ne1_9.symm
  have ne2_9 : g2 ≠ g9 := by have := B2.lt; have := hg9.out; omega
  have ne9_2 := ne2_9.symm
  have ne3_9 : g3 ≠ g9 := by have := B3.lt; have := hg9.out; omega
  have ne9_3 := ne3_9.symm
  have ne5_9 : g5 ≠ g9 := by have := B5.lt; have := hg9.out; omega
  have ne9_5 := ne5_9.symm
  have ne7_9 : g7 ≠ g9 := by have := B7.lt; have := hg9.out; omega
  have ne9_7 := ne7_9.symm
  have hb14 := hb14.mono (Nat.le_of_eq hg9.out.symm)
  have B1 := B1.next hb14 B1.lt
  have B2 := B2.next hb14 B2.lt
  have B3 := B3.next hb14 B3.lt
  have B5 := B5.next hb14 B5.lt
  have B7 := B7.next hb14 B7.lt
  have hbe := below_join hbe hb14
  clear hb14 hg9 hs14
  go_wp2_with (with_reducible refine wpList_put (o := ⟨none, .store 33 (.tmp 9) (.tmp 46), _, _, _, _⟩) (by with_unfolding_all rfl) 33 (.tmp 9) (.tmp 46) (by with_unfolding_all rfl) g9 0 (by with_unfolding_all rfl) (.agg #[.string { data := #[112, 111, 114, 116] }, .int .i64 0, .int .i64 16]) (by with_unfolding_all rfl) B9 [Value.string { data := #[112, 111, 114, 116] }, .int .i64 0, .int .i64 16] (by with_unfolding_all rfl) (by with_unfolding_all (first | exact Tryd.szF | (simp only [H_length, Pat.cells_length, List.length_append]; exact Tryd.szF))) (by with_unfolding_all (first | exact Nat.le_refl 3 | (simp only [H_length, Pat.cells_length, List.length_append]; omega))) (by with_unfolding_all (exact fields_one _ _ _)) ?_)
  intro w15 hu15 C9
  rw [splice_all _ _ (by rfl)] at C9
  have B1 := B1.upd hu15 ne1_9
  have B2 := B2.upd hu15 ne2_9
  have B3 := B3.upd hu15 ne3_9
  have B5 := B5.upd hu15 ne5_9
  have B7 := B7.upd hu15 ne7_9
  have hbe := hbe.trans (hu15.below (B := w.heap.size) hl9)
  clear B9 hu15
  have B9 := C9
  clear C9
  go_wp2_with fail
  (with_reducible refine (HS.out.f5 _ g1 B1).mono ?_)
  rintro e w16 ⟨rfl, hb16⟩
  have B1 := B1.next hb16 B1.lt
  have B2 := B2.next hb16 B2.lt
  have B3 := B3.next hb16 B3.lt
  have B5 := B5.next hb16 B5.lt
  have B7 := B7.next hb16 B7.lt
  have B9 := B9.next hb16 B9.lt
  have hbe := below_join hbe hb16
  clear hb16
  go_wp2_with (with_reducible refine wpList_alloc (o := ⟨some 11, .alloc 33, _, _, _, _⟩) (by with_unfolding_all rfl) 33 (by with_unfolding_all rfl) (.agg #[.string ByteArray.empty, .int .i64 0, .int .i64 0]) [Value.string ByteArray.empty, .int .i64 0, .int .i64 0] (by exact Tryd.zeroF) (by with_unfolding_all rfl) ?_)
  intro g11 w17 hg11 hs17 hb17 B11
  have hl11 : w.heap.size ≤ g11 := Nat.le_trans hbe.size (Nat.le_of_eq hg11.out.symm)
  have ne1_11 : g1 ≠ g11 := by have := B1.lt; have := hg11.out; omega
  have ne11_1 := ne1_11.symm
  have ne2_11 : g2 ≠ g11 := by have := B2.lt; have := hg11.out; omega
  have ne11_2 := ne2_11.symm
  have ne3_11 : g3 ≠ g11 := by have := B3.lt; have := hg11.out; omega
  have ne11_3 := ne3_11.symm
  have ne5_11 : g5 ≠ g11 := by have := B5.lt; have := hg11.out; omega
  have ne11_5 := ne5_11.symm
  have ne7_11 : g7 ≠ g11 := by have := B7.lt; have := hg11.out; omega
  have ne11_7 := ne7_11.symm
  have ne9_11 : g9 ≠ g11 := by have := B9.lt; have := hg11.out; omega
  have ne11_9 := ne9_11.symm
  have hb17 := hb17.mono (Nat.le_of_eq hg11.out.symm)
  have B1 := B1.next hb17 B1.lt
  have B2 := B2.next hb17 B2.lt
  have B3 := B3.next hb17 B3.lt
  have B5 := B5.next hb17 B5.lt
  have B7 := B7.next hb17 B7.lt
  have B9 := B9.next hb17 B9.lt
  have hbe := below_join hbe hb17
  clear hb17 hg11 hs17
  go_wp2_with (with_reducible refine wpList_put (o := ⟨none, .store 33 (.tmp 11) (.tmp 51), _, _, _, _⟩) (by with_unfolding_all rfl) 33 (.tmp 11) (.tmp 51) (by with_unfolding_all rfl) g11 0 (by with_unfolding_all rfl) (.agg #[.string ByteArray.empty, .int .i64 0, .int .i64 0]) (by with_unfolding_all rfl) B11 [Value.string ByteArray.empty, .int .i64 0, .int .i64 0] (by with_unfolding_all rfl) (by with_unfolding_all (first | exact Tryd.szF | (simp only [H_length, Pat.cells_length, List.length_append]; exact Tryd.szF))) (by with_unfolding_all (first | exact Nat.le_refl 3 | (simp only [H_length, Pat.cells_length, List.length_append]; omega))) (by with_unfolding_all (exact fields_one _ _ _)) ?_)
  intro w18 hu18 C11
  rw [splice_all _ _ (by rfl)] at C11
  have B1 := B1.upd hu18 ne1_11
  have B2 := B2.upd hu18 ne2_11
  have B3 := B3.upd hu18 ne3_11
  have B5 := B5.upd hu18 ne5_11
  have B7 := B7.upd hu18 ne7_11
  have B9 := B9.upd hu18 ne9_11
  have hbe := hbe.trans (hu18.below (B := w.heap.size) hl11)
  clear B11 hu18
  have B11 := C11
  clear C11
  go_wp2_with (with_reducible refine wpList_emp (o := ⟨some 53, .buildSlice 22 0 #[], _, _, _, _⟩) (by with_unfolding_all rfl) (by with_unfolding_all rfl) ?_)
  have lt1_a := B1.lt
  have lt2_a := B2.lt
  have lt3_a := B3.lt
  have lt5_a := B5.lt
  have lt7_a := B7.lt
  have lt9_a := B9.lt
  have lt11_a := B11.lt
  intro Ta w19 hTa hb19 Oa
  have B1 := B1.next hb19 B1.lt
  have B2 := B2.next hb19 B2.lt
  have B3 := B3.next hb19 B3.lt
  have B5 := B5.next hb19 B5.lt
  have B7 := B7.next hb19 B7.lt
  have B9 := B9.next hb19 B9.lt
  have B11 := B11.next hb19 B11.lt
  have hwTa : w.heap.size ≤ Ta := Nat.le_trans hbe.size (Nat.le_of_eq hTa.out.symm)
  have hTsa : Ta ≤ w19.heap.size := Nat.le_trans (Nat.le_of_eq hTa.out) hb19.size
  have hbe := below_join hbe hb19
  clear hb19
  go_wp2_with (with_reducible refine wpList_appF (o := ⟨some 55, .call ⟨.builtin .append, #[.tmp 53, .tmp 54], #[22, 22]⟩, _, _, _, _⟩) (by with_unfolding_all rfl) (.tmp 53) (.tmp 54) (by with_unfolding_all rfl) Ta (.slice (some ⟨Ta, 0, none⟩) 0 0) 0 [] (by with_unfolding_all rfl) Oa g1 3 3 exC (by with_unfolding_all rfl) (by exact (fun j y hy => B1.cell hy)) (by with_unfolding_all rfl) (by exact exC_one) (by with_unfolding_all decide) hTsa ?_)
  intro v20 w20 Oan hgr20
  have hb20 := below_grown8 hgr20 (fun g hg => (own_base8 Oa g hg).1) hTsa
  have B1 := B1.next hb20 (by have := lt1_a; have := hTa.out; omega)
  have B2 := B2.next hb20 (by have := lt2_a; have := hTa.out; omega)
  have B3 := B3.next hb20 (by have := lt3_a; have := hTa.out; omega)
  have B5 := B5.next hb20 (by have := lt5_a; have := hTa.out; omega)
  have B7 := B7.next hb20 (by have := lt7_a; have := hTa.out; omega)
  have B9 := B9.next hb20 (by have := lt9_a; have := hTa.out; omega)
  have B11 := B11.next hb20 (by have := lt11_a; have := hTa.out; omega)
  have hbe := hbe.trans (hb20.mono hwTa)
  have hTsa := Nat.le_trans hTsa hb20.size
  clear Oa hgr20 hb20
  obtain ⟨Aa1, ca1, rfl, _⟩ := own_shape Oan
  have Oa2 := Oan
  have hfl : [] ++ exC = flatF exampleF := rfl
  obtain ⟨g13, R13, hA13, hT13, hc13, B13⟩ := fsAt_own (l := exampleF) rfl (by decide) Oan
  subst hA13
  clear Oan Oa2 hfl
  have ne1_13 : g1 ≠ g13 := by have := lt1_a; have := hTa.out; omega
  have ne13_1 := ne1_13.symm
  have ne2_13 : g2 ≠ g13 := by have := lt2_a; have := hTa.out; omega
  have ne13_2 := ne2_13.symm
  have ne3_13 : g3 ≠ g13 := by have := lt3_a; have := hTa.out; omega
  have ne13_3 := ne3_13.symm
  have ne5_13 : g5 ≠ g13 := by have := lt5_a; have := hTa.out; omega
  have ne13_5 := ne5_13.symm
  have ne7_13 : g7 ≠ g13 := by have := lt7_a; have := hTa.out; omega
  have ne13_7 := ne7_13.symm
  have ne9_13 : g9 ≠ g13 := by have := lt9_a; have := hTa.out; omega
  have ne13_9 := ne9_13.symm
  have ne11_13 : g11 ≠ g13 := by have := lt11_a; have := hTa.out; omega
  have ne13_11 := ne11_13.symm
  have hl13 : w.heap.size ≤ g13 := Nat.le_trans hwTa hT13
  clear lt1_a lt2_a lt3_a lt5_a lt7_a lt9_a lt11_a hTa hTsa hwTa hT13
  go_wp2_with (with_reducible refine wpList_put (o := ⟨none, .store 3 (.tmp 58) (.const (.int .i64 30)), _, _, _, _⟩) (by with_unfolding_all rfl) 3 (.tmp 58) (.const (.int .i64 30)) (by with_unfolding_all rfl) g13 7 (by with_unfolding_all rfl) (.int .i64 30) (by with_unfolding_all rfl) B13 [.int .i64 30] (by with_unfolding_all rfl) (by with_unfolding_all (exact Tryd.szI1)) (by with_unfolding_all (rw [List.length_append]; show 7 + 1 ≤ 9 + _; omega)) (by with_unfolding_all (exact one_cell1 rfl)) ?_)
  intro w21 hu21 C13
  have C13 : Blk w21 g13 33 (flatF wrongF ++ R13) := C13
  have B1 := B1.upd hu21 ne1_13
  have B2 := B2.upd hu21 ne2_13
  have B3 := B3.upd hu21 ne3_13
  have B5 := B5.upd hu21 ne5_13
  have B7 := B7.upd hu21 ne7_13
  have B9 := B9.upd hu21 ne9_13
  have B11 := B11.upd hu21 ne11_13
  have hbe := hbe.trans (hu21.below (B := w.heap.size) hl13)
  clear B13 hu21
  have B13 := C13
  clear C13
  go_wp2_with (with_reducible refine wpList_emp (o := ⟨some 59, .buildSlice 22 0 #[], _, _, _, _⟩) (by with_unfolding_all rfl) (by with_unfolding_all rfl) ?_)
  have lt1_b := B1.lt
  have lt2_b := B2.lt
  have lt3_b := B3.lt
  have lt5_b := B5.lt
  have lt7_b := B7.lt
  have lt9_b := B9.lt
  have lt11_b := B11.lt
  have lt13_b := B13.lt
  intro Tb w22 hTb hb22 Ob
  have B1 := B1.next hb22 B1.lt
  have B2 := B2.next hb22 B2.lt
  have B3 := B3.next hb22 B3.lt
  have B5 := B5.next hb22 B5.lt
  have B7 := B7.next hb22 B7.lt
  have B9 := B9.next hb22 B9.lt
  have B11 := B11.next hb22 B11.lt
  have B13 := B13.next hb22 B13.lt
  have hwTb : w.heap.size ≤ Tb := Nat.le_trans hbe.size (Nat.le_of_eq hTb.out.symm)
  have hTsb : Tb ≤ w22.heap.size := Nat.le_trans (Nat.le_of_eq hTb.out) hb22.size
  have hbe := below_join hbe hb22
  clear hb22
  go_wp2_with (with_reducible refine wpList_appF (o := ⟨some 61, .call ⟨.builtin .append, #[.tmp 59, .tmp 60], #[22, 22]⟩, _, _, _, _⟩) (by with_unfolding_all rfl) (.tmp 59) (.tmp 60) (by with_unfolding_all rfl) Tb (.slice (some ⟨Tb, 0, none⟩) 0 0) 0 [] (by with_unfolding_all rfl) Ob g1 3 3 exC (by with_unfolding_all rfl) (by exact (fun j y hy => B1.cell hy)) (by with_unfolding_all rfl) (by exact exC_one) (by with_unfolding_all decide) hTsb ?_)
  intro v23 w23 Obn hgr23
  have hb23 := below_grown8 hgr23 (fun g hg => (own_base8 Ob g hg).1) hTsb
  have B1 := B1.next hb23 (by have := lt1_b; have := hTb.out; omega)
  have B2 := B2.next hb23 (by have := lt2_b; have := hTb.out; omega)
  have B3 := B3.next hb23 (by have := lt3_b; have := hTb.out; omega)
  have B5 := B5.next hb23 (by have := lt5_b; have := hTb.out; omega)
  have B7 := B7.next hb23 (by have := lt7_b; have := hTb.out; omega)
  have B9 := B9.next hb23 (by have := lt9_b; have := hTb.out; omega)
  have B11 := B11.next hb23 (by have := lt11_b; have := hTb.out; omega)
  have B13 := B13.next hb23 (by have := lt13_b; have := hTb.out; omega)
  have hbe := hbe.trans (hb23.mono hwTb)
  have hTsb := Nat.le_trans hTsb hb23.size
  clear Ob hgr23 hb23
  obtain ⟨Ab1, cb1, rfl, _⟩ := own_shape Obn
  have Ob : w23.ownsRow Tb 33 3 (.slice Ab1 3 cb1) 3 exC := Obn
  clear Obn
  have z1_0 := B1.cell (k := 0) rfl
  have z1_1 := B1.cell (k := 1) rfl
  have z1_2 := B1.cell (k := 2) rfl
  go_wp2_with (with_reducible refine wpList_fd1 (o := ⟨some 66, .buildSlice 22 1 #[(0, .tmp 65)], _, _, _, _⟩) (by with_unfolding_all rfl) (.tmp 65) (by with_unfolding_all rfl) ({ data := #[100, 115, 116] } : ByteArray) 16 8 (by with_unfolding_all rfl) ?_)
  intro g66 w24 hg66 hb24 B66
  clear z1_0 z1_1 z1_2
  have B1 := B1.next hb24 B1.lt
  have B2 := B2.next hb24 B2.lt
  have B3 := B3.next hb24 B3.lt
  have B5 := B5.next hb24 B5.lt
  have B7 := B7.next hb24 B7.lt
  have B9 := B9.next hb24 B9.lt
  have B11 := B11.next hb24 B11.lt
  have B13 := B13.next hb24 B13.lt
  have Ob := own_next8 Ob hb24
  have hTsb := Nat.le_trans hTsb hb24.size
  have hbe := below_join hbe hb24
  clear hb24 hg66
  go_wp2_with (with_reducible refine wpList_appF (o := ⟨some 67, .call ⟨.builtin .append, #[.tmp 62, .tmp 66], #[22, 22]⟩, _, _, _, _⟩) (by with_unfolding_all rfl) (.tmp 62) (.tmp 66) (by with_unfolding_all rfl) Tb (.slice Ab1 3 cb1) 3 exC (by with_unfolding_all rfl) Ob g66 1 1 [Value.string { data := #[100, 115, 116] }, .int .i64 16, .int .i64 8] (by with_unfolding_all rfl) (by exact (fun j y hy => B66.cell hy)) (by with_unfolding_all rfl) (by exact fields_one _ _ _) (by with_unfolding_all decide) hTsb ?_)
  intro v25 w25 Obn hgr25
  have hb25 := below_grown8 hgr25 (fun g hg => (own_base8 Ob g hg).1) hTsb
  have B1 := B1.next hb25 (by have := lt1_b; have := hTb.out; omega)
  have B2 := B2.next hb25 (by have := lt2_b; have := hTb.out; omega)
  have B3 := B3.next hb25 (by have := lt3_b; have := hTb.out; omega)
  have B5 := B5.next hb25 (by have := lt5_b; have := hTb.out; omega)
  have B7 := B7.next hb25 (by have := lt7_b; have := hTb.out; omega)
  have B9 := B9.next hb25 (by have := lt9_b; have := hTb.out; omega)
  have B11 := B11.next hb25 (by have := lt11_b; have := hTb.out; omega)
  have B13 := B13.next hb25 (by have := lt13_b; have := hTb.out; omega)
  have hbe := hbe.trans (hb25.mono hwTb)
  have hTsb := Nat.le_trans hTsb hb25.size
  clear Ob hgr25 hb25
  obtain ⟨Ab2, cb2, rfl, _⟩ := own_shape Obn
  obtain ⟨g14, R14, hA14, hT14, hc14, B14⟩ := fsAt_own (l := doubleF) rfl (by decide) Obn
  subst hA14
  clear Obn B66 lt1_b lt2_b lt3_b lt5_b lt7_b lt9_b lt11_b lt13_b hTb hTsb hwTb hT14
  go_wp2_with fail
  (with_reducible refine (HS.out.k1 _ g1 B1).mono ?_)
  rintro e w26 ⟨rfl, hb26⟩
  have B1 := B1.next hb26 B1.lt
  have B2 := B2.next hb26 B2.lt
  have B3 := B3.next hb26 B3.lt
  have B5 := B5.next hb26 B5.lt
  have B7 := B7.next hb26 B7.lt
  have B9 := B9.next hb26 B9.lt
  have B11 := B11.next hb26 B11.lt
  have B13 := B13.next hb26 B13.lt
  have B14 := B14.next hb26 B14.lt
  have hbe := below_join hbe hb26
  clear hb26
  go_wp2_with fail
  (with_reducible refine (HS.out.k2 _ g14 _ R14 hc14 B14).mono ?_)
  rintro e w27 ⟨rfl, hb27⟩
  have B1 := B1.next hb27 B1.lt
  have B2 := B2.next hb27 B2.lt
  have B3 := B3.next hb27 B3.lt
  have B5 := B5.next hb27 B5.lt
  have B7 := B7.next hb27 B7.lt
  have B9 := B9.next hb27 B9.lt
  have B11 := B11.next hb27 B11.lt
  have B13 := B13.next hb27 B13.lt
  have B14 := B14.next hb27 B14.lt
  have hbe := below_join hbe hb27
  clear hb27
  clear B14
  go_wp2_with fail
  (with_reducible refine (HS.out.k3 _ g13 _ R13 hc13 B13).mono ?_)
  rintro e w28 ⟨rfl, hb28⟩
  have B1 := B1.next hb28 B1.lt
  have B2 := B2.next hb28 B2.lt
  have B3 := B3.next hb28 B3.lt
  have B5 := B5.next hb28 B5.lt
  have B7 := B7.next hb28 B7.lt
  have B9 := B9.next hb28 B9.lt
  have B11 := B11.next hb28 B11.lt
  have B13 := B13.next hb28 B13.lt
  have hbe := below_join hbe hb28
  clear hb28
  clear B13
  clear B11
  have z3_0 := B3.cell (k := 0) rfl
  have z3_1 := B3.cell (k := 1) rfl
  have z3_2 := B3.cell (k := 2) rfl
  go_wp2_with (first | (with_reducible refine wpList_getg (o := ⟨some 100, .load 30 (.tmp 2), _, _, _, _⟩) (by with_unfolding_all rfl) 30 (.tmp 2) (by with_unfolding_all rfl) g2 0 (by with_unfolding_all rfl) B2 (H hF) (cs_all _) _ (by exact Tryd.underlying30) (by with_unfolding_all rfl) (by first | exact Tryd.szH | (simp only [H_length, Pat.cells_length, List.length_append]; exact Tryd.szH)) ?_))
  (with_reducible refine (HS.out.g1 _).mono ?_)
  rintro e w29 ⟨rfl, hb29⟩
  clear z3_0 z3_1 z3_2
  have B1 := B1.next hb29 B1.lt
  have B2 := B2.next hb29 B2.lt
  have B3 := B3.next hb29 B3.lt
  have B5 := B5.next hb29 B5.lt
  have B7 := B7.next hb29 B7.lt
  have B9 := B9.next hb29 B9.lt
  have hbe := below_join hbe hb29
  clear hb29
  have z5_0 := B5.cell (k := 0) rfl
  have z5_1 := B5.cell (k := 1) rfl
  have z5_2 := B5.cell (k := 2) rfl
  go_wp2_with (first | (with_reducible refine wpList_getg (o := ⟨some 106, .load 30 (.tmp 2), _, _, _, _⟩) (by with_unfolding_all rfl) 30 (.tmp 2) (by with_unfolding_all rfl) g2 0 (by with_unfolding_all rfl) B2 (H hF) (cs_all _) _ (by exact Tryd.underlying30) (by with_unfolding_all rfl) (by first | exact Tryd.szH | (simp only [H_length, Pat.cells_length, List.length_append]; exact Tryd.szH)) ?_))
  (with_reducible refine (HS.out.g2 _).mono ?_)
  rintro e w30 ⟨rfl, hb30⟩
  clear z5_0 z5_1 z5_2
  have B1 := B1.next hb30 B1.lt
  have B2 := B2.next hb30 B2.lt
  have B3 := B3.next hb30 B3.lt
  have B5 := B5.next hb30 B5.lt
  have B7 := B7.next hb30 B7.lt
  have B9 := B9.next hb30 B9.lt
  have hbe := below_join hbe hb30
  clear hb30
  have z7_0 := B7.cell (k := 0) rfl
  have z7_1 := B7.cell (k := 1) rfl
  have z7_2 := B7.cell (k := 2) rfl
  go_wp2_with (first | (with_reducible refine wpList_getg (o := ⟨some 112, .load 30 (.tmp 2), _, _, _, _⟩) (by with_unfolding_all rfl) 30 (.tmp 2) (by with_unfolding_all rfl) g2 0 (by with_unfolding_all rfl) B2 (H hF) (cs_all _) _ (by exact Tryd.underlying30) (by with_unfolding_all rfl) (by first | exact Tryd.szH | (simp only [H_length, Pat.cells_length, List.length_append]; exact Tryd.szH)) ?_))
  (with_reducible refine (HS.out.g3 _).mono ?_)
  rintro e w31 ⟨rfl, hb31⟩
  clear z7_0 z7_1 z7_2
  have B1 := B1.next hb31 B1.lt
  have B2 := B2.next hb31 B2.lt
  have B3 := B3.next hb31 B3.lt
  have B5 := B5.next hb31 B5.lt
  have B7 := B7.next hb31 B7.lt
  have B9 := B9.next hb31 B9.lt
  have hbe := below_join hbe hb31
  clear hb31
  have z9_0 := B9.cell (k := 0) rfl
  have z9_1 := B9.cell (k := 1) rfl
  have z9_2 := B9.cell (k := 2) rfl
  go_wp2_with (first | (with_reducible refine wpList_getg (o := ⟨some 118, .load 30 (.tmp 2), _, _, _, _⟩) (by with_unfolding_all rfl) 30 (.tmp 2) (by with_unfolding_all rfl) g2 0 (by with_unfolding_all rfl) B2 (H hF) (cs_all _) _ (by exact Tryd.underlying30) (by with_unfolding_all rfl) (by first | exact Tryd.szH | (simp only [H_length, Pat.cells_length, List.length_append]; exact Tryd.szH)) ?_))
  (with_reducible refine (HS.out.g4 _).mono ?_)
  rintro e w32 ⟨rfl, hb32⟩
  clear z9_0 z9_1 z9_2
  have B1 := B1.next hb32 B1.lt
  have B2 := B2.next hb32 B2.lt
  have B3 := B3.next hb32 B3.lt
  have B5 := B5.next hb32 B5.lt
  have B7 := B7.next hb32 B7.lt
  have B9 := B9.next hb32 B9.lt
  have hbe := below_join hbe hb32
  clear hb32
  have z7_0 := B7.cell (k := 0) rfl
  have z7_1 := B7.cell (k := 1) rfl
  have z7_2 := B7.cell (k := 2) rfl
  go_wp2_with (first | (with_reducible refine wpList_getg (o := ⟨some 124, .load 30 (.tmp 2), _, _, _, _⟩) (by with_unfolding_all rfl) 30 (.tmp 2) (by with_unfolding_all rfl) g2 0 (by with_unfolding_all rfl) B2 (H hF) (cs_all _) _ (by exact Tryd.underlying30) (by with_unfolding_all rfl) (by first | exact Tryd.szH | (simp only [H_length, Pat.cells_length, List.length_append]; exact Tryd.szH)) ?_))
  (with_reducible refine (HS.out.s1 _).mono ?_)
  rintro e w33 ⟨rfl, hb33⟩
  clear z7_0 z7_1 z7_2
  have B1 := B1.next hb33 B1.lt
  have B2 := B2.next hb33 B2.lt
  have B3 := B3.next hb33 B3.lt
  have B5 := B5.next hb33 B5.lt
  have B7 := B7.next hb33 B7.lt
  have B9 := B9.next hb33 B9.lt
  have hbe := below_join hbe hb33
  clear hb33
  have z5_0 := B5.cell (k := 0) rfl
  have z5_1 := B5.cell (k := 1) rfl
  have z5_2 := B5.cell (k := 2) rfl
  go_wp2_with (first | (with_reducible refine wpList_idx3 (o := ⟨some 126, .index 30 (.tmp 125) (.const (.int .i64 2)), _, _, _, _⟩) (by with_unfolding_all rfl) (.tmp 125) (by with_unfolding_all rfl) (by with_unfolding_all rfl) ?_))
  (with_reducible refine (HS.out.e1 _).mono ?_)
  rintro e w34 ⟨rfl, hb34⟩
  clear z5_0 z5_1 z5_2
  have B1 := B1.next hb34 B1.lt
  have B2 := B2.next hb34 B2.lt
  have B3 := B3.next hb34 B3.lt
  have B5 := B5.next hb34 B5.lt
  have B7 := B7.next hb34 B7.lt
  have B9 := B9.next hb34 B9.lt
  have hbe := below_join hbe hb34
  clear hb34
  clear B5
  go_wp2_with (with_reducible refine wpList_alloc (o := ⟨some 17, .alloc 48, _, _, _, _⟩) (by with_unfolding_all rfl) 48 (by with_unfolding_all rfl) (.agg (H no ++ H no).toArray) (H no ++ H no) (by exact Tryd.zeroPt) (by with_unfolding_all rfl) ?_)
  intro g17 w35 hg17 hs35 hb35 B17
  have hl17 : w.heap.size ≤ g17 := Nat.le_trans hbe.size (Nat.le_of_eq hg17.out.symm)
  have ne1_17 : g1 ≠ g17 := by have := B1.lt; have := hg17.out; omega
  have ne17_1 := ne1_17.symm
  have ne2_17 : g2 ≠ g17 := by have := B2.lt; have := hg17.out; omega
  have ne17_2 := ne2_17.symm
  have ne3_17 : g3 ≠ g17 := by have := B3.lt; have := hg17.out; omega
  have ne17_3 := ne3_17.symm
  have ne7_17 : g7 ≠ g17 := by have := B7.lt; have := hg17.out; omega
  have ne17_7 := ne7_17.symm
  have ne9_17 : g9 ≠ g17 := by have := B9.lt; have := hg17.out; omega
  have ne17_9 := ne9_17.symm
  have hb35 := hb35.mono (Nat.le_of_eq hg17.out.symm)
  have B1 := B1.next hb35 B1.lt
  have B2 := B2.next hb35 B2.lt
  have B3 := B3.next hb35 B3.lt
  have B7 := B7.next hb35 B7.lt
  have B9 := B9.next hb35 B9.lt
  have hbe := below_join hbe hb35
  clear hb35 hg17 hs35
  go_wp2_with (with_reducible refine wpList_put (o := ⟨none, .store 48 (.tmp 17) (.tmp 130), _, _, _, _⟩) (by with_unfolding_all rfl) 48 (.tmp 17) (.tmp 130) (by with_unfolding_all rfl) g17 0 (by with_unfolding_all rfl) (.agg pE.toArray) (by with_unfolding_all rfl) B17 pE (by with_unfolding_all rfl) (by with_unfolding_all (exact Tryd.szP)) (by with_unfolding_all (simp only [List.length_append, H_length]; show 0 + 20 ≤ 20; omega)) (by with_unfolding_all (exact pE_one)) ?_)
  intro w36 hu36 C17
  rw [splice_all _ _ (by simp only [List.length_append, H_length]; rfl)] at C17
  have B1 := B1.upd hu36 ne1_17
  have B2 := B2.upd hu36 ne2_17
  have B3 := B3.upd hu36 ne3_17
  have B7 := B7.upd hu36 ne7_17
  have B9 := B9.upd hu36 ne9_17
  have hbe := hbe.trans (hu36.below (B := w.heap.size) hl17)
  clear B17 hu36
  have B17 := C17
  clear C17
  have z3_0 := B3.cell (k := 0) rfl
  have z3_1 := B3.cell (k := 1) rfl
  have z3_2 := B3.cell (k := 2) rfl
  go_wp2_with fail
  (with_reducible refine (HS.out.p1 _).mono ?_)
  rintro e w37 ⟨rfl, hb37⟩
  clear z3_0 z3_1 z3_2
  have B1 := B1.next hb37 B1.lt
  have B2 := B2.next hb37 B2.lt
  have B3 := B3.next hb37 B3.lt
  have B7 := B7.next hb37 B7.lt
  have B9 := B9.next hb37 B9.lt
  have B17 := B17.next hb37 B17.lt
  have hbe := below_join hbe hb37
  clear hb37
  clear B3 B9
  go_wp2_with (with_reducible refine wpList_alloc (o := ⟨some 18, .alloc 48, _, _, _, _⟩) (by with_unfolding_all rfl) 48 (by with_unfolding_all rfl) (.agg (H no ++ H no).toArray) (H no ++ H no) (by exact Tryd.zeroPt) (by with_unfolding_all rfl) ?_)
  intro g18 w38 hg18 hs38 hb38 B18
  have hl18 : w.heap.size ≤ g18 := Nat.le_trans hbe.size (Nat.le_of_eq hg18.out.symm)
  have ne1_18 : g1 ≠ g18 := by have := B1.lt; have := hg18.out; omega
  have ne18_1 := ne1_18.symm
  have ne2_18 : g2 ≠ g18 := by have := B2.lt; have := hg18.out; omega
  have ne18_2 := ne2_18.symm
  have ne7_18 : g7 ≠ g18 := by have := B7.lt; have := hg18.out; omega
  have ne18_7 := ne7_18.symm
  have ne17_18 : g17 ≠ g18 := by have := B17.lt; have := hg18.out; omega
  have ne18_17 := ne17_18.symm
  have hb38 := hb38.mono (Nat.le_of_eq hg18.out.symm)
  have B1 := B1.next hb38 B1.lt
  have B2 := B2.next hb38 B2.lt
  have B7 := B7.next hb38 B7.lt
  have B17 := B17.next hb38 B17.lt
  have hbe := below_join hbe hb38
  clear hb38 hg18 hs38
  go_wp2_with (with_reducible refine wpList_put (o := ⟨none, .store 48 (.tmp 18) (.tmp 132), _, _, _, _⟩) (by with_unfolding_all rfl) 48 (.tmp 18) (.tmp 132) (by with_unfolding_all rfl) g18 0 (by with_unfolding_all rfl) (.agg pQ.toArray) (by with_unfolding_all rfl) B18 pQ (by with_unfolding_all rfl) (by with_unfolding_all (exact Tryd.szP)) (by with_unfolding_all (simp only [List.length_append, H_length]; show 0 + 20 ≤ 20; omega)) (by with_unfolding_all (exact pQ_one)) ?_)
  intro w39 hu39 C18
  rw [splice_all _ _ (by simp only [List.length_append, H_length]; rfl)] at C18
  have B1 := B1.upd hu39 ne1_18
  have B2 := B2.upd hu39 ne2_18
  have B7 := B7.upd hu39 ne7_18
  have B17 := B17.upd hu39 ne17_18
  have hbe := hbe.trans (hu39.below (B := w.heap.size) hl18)
  clear B18 hu39
  have B18 := C18
  clear C18
  go_wp2_with (first | (with_reducible refine wpList_getg (o := ⟨some 136, .load 30 (.tmp 2), _, _, _, _⟩) (by with_unfolding_all rfl) 30 (.tmp 2) (by with_unfolding_all rfl) g2 0 (by with_unfolding_all rfl) B2 (H hF) (cs_all _) _ (by exact Tryd.underlying30) (by with_unfolding_all rfl) (by first | exact Tryd.szH | (simp only [H_length, Pat.cells_length, List.length_append]; exact Tryd.szH)) ?_) | (with_reducible refine wpList_strs (o := ⟨some 135, .buildSlice 28 2 #[(0, .const (.string { data := #[107, 105, 110, 100] })), (1, .const (.string { data := #[112, 111, 114, 116] }))], _, _, _, _⟩) (by with_unfolding_all rfl) 2 #[(0, .const (.string { data := #[107, 105, 110, 100] })), (1, .const (.string { data := #[112, 111, 114, 116] }))] (by with_unfolding_all rfl) #[(0, .string ({ data := #[107, 105, 110, 100] } : ByteArray)), (1, .string ({ data := #[112, 111, 114, 116] } : ByteArray))] (by with_unfolding_all rfl) [({ data := #[107, 105, 110, 100] } : ByteArray), ({ data := #[112, 111, 114, 116] } : ByteArray)] (by with_unfolding_all exact fun w => run_s2 w ({ data := #[107, 105, 110, 100] } : ByteArray) ({ data := #[112, 111, 114, 116] } : ByteArray)) ?_))
  intro g135 w40 hg135 hb40 B135
  have B1 := B1.next hb40 B1.lt
  have B2 := B2.next hb40 B2.lt
  have B7 := B7.next hb40 B7.lt
  have B17 := B17.next hb40 B17.lt
  have B18 := B18.next hb40 B18.lt
  have hbe := below_join hbe hb40
  clear hb40 hg135
  have HKY := Lib.hid (HS.out.y1 _ g1 g135 B1 B135)
  clear B135
  go_wp2_with (first | (with_reducible refine wpList_getg (o := ⟨some 136, .load 30 (.tmp 2), _, _, _, _⟩) (by with_unfolding_all rfl) 30 (.tmp 2) (by with_unfolding_all rfl) g2 0 (by with_unfolding_all rfl) B2 (H hF) (cs_all _) _ (by exact Tryd.underlying30) (by with_unfolding_all rfl) (by first | exact Tryd.szH | (simp only [H_length, Pat.cells_length, List.length_append]; exact Tryd.szH)) ?_))
  (with_reducible refine HKY.out.mono ?_)
  rintro e w41 ⟨⟨AK, cK, rfl, IK⟩, hb41⟩
  have B1 := B1.next hb41 B1.lt
  have B2 := B2.next hb41 B2.lt
  have B7 := B7.next hb41 B7.lt
  have B17 := B17.next hb41 B17.lt
  have B18 := B18.next hb41 B18.lt
  have hbe := below_join hbe hb41
  clear hb41 HKY
  have z17_1 := B17.cell (k := 1) rfl
  have z17_11 := B17.cell (k := 11) rfl
  have z18_1 := B18.cell (k := 1) rfl
  have z18_11 := B18.cell (k := 11) rfl
  go_wp2_with (with_reducible refine wpList_i75 (o := ⟨some 167, .buildSlice 38 2 #[(0, .const (.int .i64 7)), (1, .const (.int .i64 5))], _, _, _, _⟩) (by with_unfolding_all rfl) (by with_unfolding_all rfl) ?_)
  intro g167 w42 hg167 hb42 B167
  clear z17_1 z17_11 z18_1 z18_11
  have B1 := B1.next hb42 B1.lt
  have B2 := B2.next hb42 B2.lt
  have B7 := B7.next hb42 B7.lt
  have B17 := B17.next hb42 B17.lt
  have B18 := B18.next hb42 B18.lt
  have IK := IK.next hb42
  have hbe := below_join hbe hb42
  clear hb42 hg167 B17 B18
  go_wp2_with fail
  (with_reducible refine (HS.out.i1 _ _ _ _ _ IK (isAt_blk (l := [7, 5]) B167)).mono ?_)
  rintro e w43 ⟨rfl, hb43⟩
  have B1 := B1.next hb43 B1.lt
  have B2 := B2.next hb43 B2.lt
  have B7 := B7.next hb43 B7.lt
  have hbe := below_join hbe hb43
  clear hb43
  clear IK B167
  go_wp2_with (first | (with_reducible refine wpList_getg (o := ⟨some 171, .load 30 (.tmp 2), _, _, _, _⟩) (by with_unfolding_all rfl) 30 (.tmp 2) (by with_unfolding_all rfl) g2 0 (by with_unfolding_all rfl) B2 (H hF) (cs_all _) _ (by exact Tryd.underlying30) (by with_unfolding_all rfl) (by first | exact Tryd.szH | (simp only [H_length, Pat.cells_length, List.length_append]; exact Tryd.szH)) ?_))
  (with_reducible refine (HS.out.t1 _).mono ?_)
  rintro e w44 ⟨rfl, hb44⟩
  have B1 := B1.next hb44 B1.lt
  have B2 := B2.next hb44 B2.lt
  have B7 := B7.next hb44 B7.lt
  have hbe := below_join hbe hb44
  clear hb44
  go_wp2_with fail
  (with_reducible refine (HS.out.q1 _ (HQ.out.next hbe)).mono ?_)
  rintro e w45 ⟨rfl, hb45⟩
  have B1 := B1.next hb45 B1.lt
  have B2 := B2.next hb45 B2.lt
  have B7 := B7.next hb45 B7.lt
  have hbe := below_join hbe hb45
  clear hb45
  go_wp2_with (with_reducible refine wpList_alloc (o := ⟨some 22, .alloc 30, _, _, _, _⟩) (by with_unfolding_all rfl) 30 (by with_unfolding_all rfl) (.agg (H no).toArray) (H no) (by exact Tryd.zeroH) (by with_unfolding_all rfl) ?_)
  intro g22 w46 hg22 hs46 hb46 B22
  have hl22 : w.heap.size ≤ g22 := Nat.le_trans hbe.size (Nat.le_of_eq hg22.out.symm)
  have ne1_22 : g1 ≠ g22 := by have := B1.lt; have := hg22.out; omega
  have ne22_1 := ne1_22.symm
  have ne2_22 : g2 ≠ g22 := by have := B2.lt; have := hg22.out; omega
  have ne22_2 := ne2_22.symm
  have ne7_22 : g7 ≠ g22 := by have := B7.lt; have := hg22.out; omega
  have ne22_7 := ne7_22.symm
  have hb46 := hb46.mono (Nat.le_of_eq hg22.out.symm)
  have B1 := B1.next hb46 B1.lt
  have B2 := B2.next hb46 B2.lt
  have B7 := B7.next hb46 B7.lt
  have hbe := below_join hbe hb46
  clear hb46 hg22 hs46
  go_wp2_with (with_reducible refine wpList_put (o := ⟨none, .store 30 (.tmp 22) (.tmp 174), _, _, _, _⟩) (by with_unfolding_all rfl) 30 (.tmp 22) (.tmp 174) (by with_unfolding_all rfl) g22 0 (by with_unfolding_all rfl) (.agg (H hF).toArray) (by with_unfolding_all rfl) B22 (H hF) (by with_unfolding_all rfl) (by with_unfolding_all (first | exact Tryd.szH | (simp only [H_length, Pat.cells_length, List.length_append]; exact Tryd.szH))) (by with_unfolding_all (first | exact Nat.le_refl 3 | (simp only [H_length, Pat.cells_length, List.length_append]; omega))) (by with_unfolding_all (exact H_one _)) ?_)
  intro w47 hu47 C22
  rw [splice_all _ _ (by simp only [H_length])] at C22
  have B1 := B1.upd hu47 ne1_22
  have B2 := B2.upd hu47 ne2_22
  have B7 := B7.upd hu47 ne7_22
  have hbe := hbe.trans (hu47.below (B := w.heap.size) hl22)
  clear B22 hu47
  have B22 := C22
  clear C22
  go_wp2_with fail
  (with_reducible refine (HS.out.q2 _ (HQ.out.next hbe)).mono ?_)
  rintro e w48 ⟨rfl, hb48⟩
  have B1 := B1.next hb48 B1.lt
  have B2 := B2.next hb48 B2.lt
  have B7 := B7.next hb48 B7.lt
  have B22 := B22.next hb48 B22.lt
  have hbe := below_join hbe hb48
  clear hb48
  go_wp2_with (with_reducible refine wpList_alloc (o := ⟨some 24, .alloc 30, _, _, _, _⟩) (by with_unfolding_all rfl) 30 (by with_unfolding_all rfl) (.agg (H no).toArray) (H no) (by exact Tryd.zeroH) (by with_unfolding_all rfl) ?_)
  intro g24 w49 hg24 hs49 hb49 B24
  have hl24 : w.heap.size ≤ g24 := Nat.le_trans hbe.size (Nat.le_of_eq hg24.out.symm)
  have ne1_24 : g1 ≠ g24 := by have := B1.lt; have := hg24.out; omega
  have ne24_1 := ne1_24.symm
  have ne2_24 : g2 ≠ g24 := by have := B2.lt; have := hg24.out; omega
  have ne24_2 := ne2_24.symm
  have ne7_24 : g7 ≠ g24 := by have := B7.lt; have := hg24.out; omega
  have ne24_7 := ne7_24.symm
  have ne22_24 : g22 ≠ g24 := by have := B22.lt; have := hg24.out; omega
  have ne24_22 := ne22_24.symm
  have hb49 := hb49.mono (Nat.le_of_eq hg24.out.symm)
  have B1 := B1.next hb49 B1.lt
  have B2 := B2.next hb49 B2.lt
  have B7 := B7.next hb49 B7.lt
  have B22 := B22.next hb49 B22.lt
  have hbe := below_join hbe hb49
  clear hb49 hg24 hs49
  go_wp2_with (with_reducible refine wpList_put (o := ⟨none, .store 30 (.tmp 24) (.tmp 178), _, _, _, _⟩) (by with_unfolding_all rfl) 30 (.tmp 24) (.tmp 178) (by with_unfolding_all rfl) g24 0 (by with_unfolding_all rfl) (.agg (H no).toArray) (by with_unfolding_all rfl) B24 (H no) (by with_unfolding_all rfl) (by with_unfolding_all (first | exact Tryd.szH | (simp only [H_length, Pat.cells_length, List.length_append]; exact Tryd.szH))) (by with_unfolding_all (first | exact Nat.le_refl 3 | (simp only [H_length, Pat.cells_length, List.length_append]; omega))) (by with_unfolding_all (exact H_one _)) ?_)
  intro w50 hu50 C24
  rw [splice_all _ _ (by simp only [H_length])] at C24
  have B1 := B1.upd hu50 ne1_24
  have B2 := B2.upd hu50 ne2_24
  have B7 := B7.upd hu50 ne7_24
  have B22 := B22.upd hu50 ne22_24
  have hbe := hbe.trans (hu50.below (B := w.heap.size) hl24)
  clear B24 hu50
  have B24 := C24
  clear C24
  go_wp2_with (first | (with_reducible refine wpList_getg (o := ⟨some 185, .load 30 (.tmp 2), _, _, _, _⟩) (by with_unfolding_all rfl) 30 (.tmp 2) (by with_unfolding_all rfl) g2 0 (by with_unfolding_all rfl) B2 (H hF) (cs_all _) _ (by exact Tryd.underlying30) (by with_unfolding_all rfl) (by first | exact Tryd.szH | (simp only [H_length, Pat.cells_length, List.length_append]; exact Tryd.szH)) ?_))
  (with_reducible refine (HS.out.t1 _).mono ?_)
  rintro e w51 ⟨rfl, hb51⟩
  have B1 := B1.next hb51 B1.lt
  have B2 := B2.next hb51 B2.lt
  have B7 := B7.next hb51 B7.lt
  have B22 := B22.next hb51 B22.lt
  have B24 := B24.next hb51 B24.lt
  have hbe := below_join hbe hb51
  clear hb51
  go_wp2_with (first | (with_reducible refine wpList_getg (o := ⟨some 191, .load 30 (.tmp 2), _, _, _, _⟩) (by with_unfolding_all rfl) 30 (.tmp 2) (by with_unfolding_all rfl) g2 0 (by with_unfolding_all rfl) B2 (H hF) (cs_all _) _ (by exact Tryd.underlying30) (by with_unfolding_all rfl) (by first | exact Tryd.szH | (simp only [H_length, Pat.cells_length, List.length_append]; exact Tryd.szH)) ?_))
  (with_reducible refine (HS.out.w1 _ g1 B1 (HQ.out.next hbe)).mono ?_)
  rintro e w52 ⟨rfl, hb52⟩
  have B1 := B1.next hb52 B1.lt
  have B2 := B2.next hb52 B2.lt
  have B7 := B7.next hb52 B7.lt
  have B22 := B22.next hb52 B22.lt
  have B24 := B24.next hb52 B24.lt
  have hbe := below_join hbe hb52
  clear hb52
  have z7_0 := B7.cell (k := 0) rfl
  have z7_1 := B7.cell (k := 1) rfl
  have z7_2 := B7.cell (k := 2) rfl
  go_wp2_with (first | (with_reducible refine wpList_getg (o := ⟨some 200, .load 30 (.tmp 22), _, _, _, _⟩) (by with_unfolding_all rfl) 30 (.tmp 22) (by with_unfolding_all rfl) g22 0 (by with_unfolding_all rfl) B22 (H hF) (cs_all _) _ (by exact Tryd.underlying30) (by with_unfolding_all rfl) (by first | exact Tryd.szH | (simp only [H_length, Pat.cells_length, List.length_append]; exact Tryd.szH)) ?_) | (with_reducible refine wpList_getg (o := ⟨some 201, .load 30 (.tmp 2), _, _, _, _⟩) (by with_unfolding_all rfl) 30 (.tmp 2) (by with_unfolding_all rfl) g2 0 (by with_unfolding_all rfl) B2 (H hF) (cs_all _) _ (by exact Tryd.underlying30) (by with_unfolding_all rfl) (by first | exact Tryd.szH | (simp only [H_length, Pat.cells_length, List.length_append]; exact Tryd.szH)) ?_))
  (with_reducible refine (HS.out.m1 _).mono ?_)
  rintro e w53 ⟨rfl, hb53⟩
  clear z7_0 z7_1 z7_2
  have B1 := B1.next hb53 B1.lt
  have B2 := B2.next hb53 B2.lt
  have B7 := B7.next hb53 B7.lt
  have B22 := B22.next hb53 B22.lt
  have B24 := B24.next hb53 B24.lt
  have hbe := below_join hbe hb53
  clear hb53
  go_wp2_with fail
  (with_reducible refine (HS.out.n1 _).mono ?_)
  rintro e w54 ⟨rfl, hb54⟩
  have B1 := B1.next hb54 B1.lt
  have B2 := B2.next hb54 B2.lt
  have B7 := B7.next hb54 B7.lt
  have B22 := B22.next hb54 B22.lt
  have B24 := B24.next hb54 B24.lt
  have hbe := below_join hbe hb54
  clear hb54
  go_wp2_with fail
  (with_reducible refine (HS.out.n2 _).mono ?_)
  rintro e w55 ⟨rfl, hb55⟩
  have B1 := B1.next hb55 B1.lt
  have B2 := B2.next hb55 B2.lt
  have B7 := B7.next hb55 B7.lt
  have B22 := B22.next hb55 B22.lt
  have B24 := B24.next hb55 B24.lt
  have hbe := below_join hbe hb55
  clear hb55
  go_wp2
  go_ret
  exact ⟨rfl, hbe⟩
end Go.Proofs.YtbgndopgllnmaaaDoor
