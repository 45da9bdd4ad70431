/-
  The statement WireCanonical of layer 1, its walk. Conditions: none.
-/
import Derived.Test.YtkbmgkaopjjkoaaConcat
namespace Go.Proofs.Ytkbmgkaopjjkoaa
open Go.RowKit

theorem code_facts {α : Type} {ok : α → Prop} {zero : α} {enc : α → List UInt8} {get : List UInt8 → α × Nat × Int} (C : WM.Code ok zero enc get) (hz : ok zero) {l : List UInt8} (hl : l.length ≤ 1000000000) {x : α} {u : Nat} {e : Int} (h : get l = (x, u, e)) :
    ok x ∧ (e = 0 → u ≤ l.length ∧ l.take u = enc x) ∧ ((enc x).length ≤ l.length ∨ x = zero) := by
  by_cases he : e = 0
  · subst he
    obtain ⟨h1, h2, h3⟩ := C.canon l x u hl h
    refine ⟨h3, fun _ => ⟨h1, h2⟩, .inl ?_⟩
    rw [← h2, List.length_take]; omega
  · have := C.errs l (by rw [h]; exact he)
    rw [h] at this
    obtain ⟨h1, _, _⟩ := this
    have h1' : x = zero := h1
    subst h1'
    exact ⟨hz, fun h0 => absurd h0 he, .inr rfl⟩
theorem Holds.take {w : World} {A : Option Addr} {l : List UInt8} (h : Holds w A (l.map B8)) (k : Nat) : Holds w A ((l.take k).map B8) := fun j u hu => by
  rw [List.map_take, List.getElem?_take] at hu
  split at hu
  · exact h j u hu
  · cases hu

set_option maxRecDepth 100000 in
set_option maxHeartbeats 800000 in
theorem is_any (C : Option Addr) (k ck : Nat) (bs : List UInt8) (u : Nat) (x : Int) (g : Nat) (A : Option Addr) (m cap : Nat) (l : List UInt8) (w : World) (hk : k = bs.length) (HC : Holds w C (bs.map B8))
    (hcell : w.cell? ⟨g, 0, none⟩ = some (.slice A m cap)) (hm : m = l.length) (hmc : m ≤ cap) (hml : m ≤ 2000) (HA : Holds w A (l.map B8)) (hx : x = 0 → u ≤ l.length ∧ l.take u = bs) :
    Calls Try.prog 37 #[.slice C k ck, .int .i64 (u : Int), .int .i64 x, .pointer (some ⟨g, 0, none⟩)] w (TruePost w) := by
  have HM := Lib.hid hm
  have HK := Lib.hid hk
  clear hm hk
  by_cases h0 : x = 0
  · obtain ⟨h1, h2⟩ := hx h0
    subst h0
    have H2 := Lib.hid h2
    have hum : u ≤ m := by rw [HM.out]; exact h1
    have hu0 : (0 : Int) ≤ (u : Int) := by omega
    have hum' : (u : Int) ≤ (m : Int) := by omega
    have huc : u ≤ cap := by omega
    clear h1 h2 hx
    rcases Nat.eq_zero_or_pos u with h9 | h9
    · subst h9
      go_enter Try.func37, Try.ntmps37
      go_wp2_with fail
      refine (same_any _ _ _ _ _ _ bs _ HK.out ?_ HC ?_).mono ?_
      · rw [← H2.out, List.length_take, ← HM.out]; omega
      · have := HA.take 0; rw [H2.out] at this; exact this
      rintro e w1 ⟨rfl, hs1⟩
      go_wp2_with fail
      go_ret
      exact ⟨rfl, hs1⟩
    · go_enter Try.func37, Try.ntmps37
      go_wp2_with fail
      refine (same_any _ _ _ _ _ _ bs _ HK.out ?_ HC ?_).mono ?_
      · rw [← H2.out, List.length_take, ← HM.out]; omega
      · have := HA.take u; rw [H2.out] at this; exact this
      rintro e w1 ⟨rfl, hs1⟩
      go_wp2_with fail
      go_ret
      exact ⟨rfl, hs1⟩
  · have b0 : (x != 0) = true := by rw [bne_iff_ne]; exact h0
    clear hx h0
    go_enter Try.func37, Try.ntmps37
    go_wp2_with fail
    go_ret
    exact ⟨rfl, Below.refl _ _⟩

theorem getB_small {l : List UInt8} {x : List UInt8} (h : (WM.encB x).length ≤ l.length ∨ x = []) (hl : l.length ≤ 2000) : x.length ≤ 2000 := by
  rcases h with h | rfl
  · unfold WM.encB at h; rw [List.length_append] at h; omega
  · simp
theorem all_small {α : Type} {enc : α → List UInt8} {l : List UInt8} {xs : List α} (h : (WM.encAll enc xs).length ≤ l.length ∨ xs = []) (hl : l.length ≤ 2000) : (WM.encAll enc xs).length ≤ 2000 := by
  rcases h with h | rfl
  · omega
  · have := lenN_le 0 (by decide)
    unfold WM.encAll; rw [List.length_append]; simp only [List.length_nil, List.flatMap_nil]; omega

set_option maxRecDepth 100000 in
set_option maxHeartbeats 3200000 in
theorem canon_any (A : Option Addr) (m cap : Nat) (l : List UInt8) (w : World) (hm : m = l.length) (hmc : m ≤ cap) (hml : m ≤ 9223372036854775807) (hA : Holds w A (l.map B8)) :
    Calls Try.prog 7 #[.slice A m cap] w (TruePost w) := by
  have hmf : ∀ (fn : Fn) (first cap : Array Value) (w : World), (Instr.makeFunc fn first cap).run Try.prog w = .ok (.func fn first cap) w := fun _ _ _ _ => rfl
  have HM := Lib.hid hm
  clear hm
  by_cases hbig : 2000 < m
  · go_enter Try.func7, Try.ntmps7
    go_wp2_with fail
    refine (sanity_any _).mono ?_
    rintro e w1 ⟨rfl, hb1⟩
    go_wp2_with fail
    go_ret
    exact ⟨rfl, below_then hb1⟩
  · have hl2 : l.length ≤ 2000 := by rw [← HM.out]; omega
    obtain ⟨n1, i1, e1, g1⟩ : ∃ n i e, WM.getI l = (n, i, e) := ⟨_, _, _, rfl⟩
    obtain ⟨n2, i2, e2, g2⟩ : ∃ n i e, WM.getB l = (n, i, e) := ⟨_, _, _, rfl⟩
    obtain ⟨n3, i3, e3, g3⟩ : ∃ n i e, WM.getAll WM.getI 1 l = (n, i, e) := ⟨_, _, _, rfl⟩
    obtain ⟨n4, i4, e4, g4⟩ : ∃ n i e, WM.getAll WM.getB 1 l = (n, i, e) := ⟨_, _, _, rfl⟩
    obtain ⟨n5, i5, e5, g5⟩ : ∃ n i e, WM.getAll WM.getD 16 l = (n, i, e) := ⟨_, _, _, rfl⟩
    obtain ⟨ok1, f1, _⟩ := code_facts WM.codeI ⟨by decide, by decide⟩ (by omega) g1
    obtain ⟨_, f2, b2⟩ := code_facts WM.codeB (by unfold WM.okB; simp) (by omega) g2
    obtain ⟨ok3, f3, b3⟩ := code_facts WM.codeInts ⟨by simp, by simp⟩ (by omega) g3
    obtain ⟨ok4, f4, b4⟩ := code_facts WM.codeStrings ⟨by simp, by simp⟩ (by omega) g4
    obtain ⟨ok5, f5, b5⟩ := code_facts WM.codeDigests ⟨by simp, by simp⟩ (by omega) g5
    replace b2 := getB_small b2 hl2
    replace b3 := all_small b3 hl2
    replace b4 := all_small b4 hl2
    replace b5 := all_small b5 hl2
    obtain ⟨ok3, k3⟩ := ok3
    obtain ⟨_, k4⟩ := ok4
    obtain ⟨ok5, k5⟩ := ok5
    have G1 := Lib.hid g1
    have G2 := Lib.hid g2
    have G3 := Lib.hid g3
    have G4 := Lib.hid g4
    have G5 := Lib.hid g5
    have F1 := Lib.hid f1
    have F2 := Lib.hid f2
    have F3 := Lib.hid f3
    have F4 := Lib.hid f4
    have F5 := Lib.hid f5
    have O3 := Lib.hid ok3
    have O5 := Lib.hid ok5
    clear g1 g2 g3 g4 g5 f1 f2 f3 f4 f5 ok3 ok5
    go_enter Try.func7, Try.ntmps7
    have hc0 : (w.alloc (.cells #[.slice A m cap] 28)).cell? ⟨w.heap.size, 0, none⟩ = some (.slice A m cap) := by rw [World.cell?_alloc_at _ _ _ _ rfl]; rfl
    have hA0 := hA.alloc (.cells #[.slice A m cap] 28)
    clear hA
    go_wp2_with fail
    refine (use_getInt A m cap _ HM.out (by omega) hA0 G1.out).mono ?_
    rintro e w1 ⟨rfl, hs1⟩
    have hb1 : Below w.heap.size w w1 := below_then hs1
    have hc1 := Keeps.of hs1 _ _ hc0
    replace hA0 := hA0.next hs1
    go_wp2_with fail
    refine (use_getBytes A m cap _ HM.out (by omega) (by rw [← HM.out]; exact hmc) hA0 G2.out).mono ?_
    rintro e w2 ⟨rfl, hs2⟩
    have hb2 : Below w.heap.size w w2 := below_join hb1 hs2
    have hc2 := Keeps.of hs2 _ _ hc1
    clear hc1
    replace hA0 := hA0.next hs2
    go_wp2_with fail
    refine (use_getInts A m cap _ HM.out (by omega) (by rw [← HM.out]; exact hmc) hA0 G3.out).mono ?_
    rintro e w3 ⟨A3, cA3, rfl, hcA3, H3, hs3⟩
    have hb3 : Below w.heap.size w w3 := below_join hb2 hs3
    have hc3 := Keeps.of hs3 _ _ hc2
    clear hc2
    replace hA0 := hA0.next hs3
    go_wp2_with fail
    refine (use_getStrings A m cap _ HM.out (by omega) (by rw [← HM.out]; exact hmc) hA0 G4.out).mono ?_
    rintro e w4 ⟨A4, cA4, rfl, hcA4, H4, hs4⟩
    have hb4 : Below w.heap.size w w4 := below_join hb3 hs4
    have hc4 := Keeps.of hs4 _ _ hc3
    clear hc3
    replace hA0 := hA0.next hs4
    replace H3 := H3.next hs4
    go_wp2_with fail
    refine (use_getDigests A m cap _ HM.out (by omega) (by rw [← HM.out]; exact hmc) hA0 G5.out).mono ?_
    rintro e w5 ⟨A5, cA5, rfl, hcA5, H5, hs5⟩
    have hb5 : Below w.heap.size w w5 := below_join hb4 hs5
    have hc5 := Keeps.of hs5 _ _ hc4
    clear hc4
    replace hA0 := hA0.next hs5
    replace H3 := H3.next hs5
    replace H4 := H4.next hs5
    go_wp2_with fail
    refine (sanity_any _).mono ?_
    rintro e w6 ⟨rfl, hs6⟩
    have hb6 : Below w.heap.size w w6 := below_join hb5 hs6
    have hc6 := Keeps.of hs6 _ _ hc5
    clear hc5
    replace hA0 := hA0.next hs6
    replace H3 := H3.next hs6
    replace H4 := H4.next hs6
    replace H5 := H5.next hs6
    go_wp2_with fail
    refine (use_int n1 _ ok1).mono ?_
    rintro e w7 ⟨B7, d7, rfl, hd7, K7, hs7⟩
    have hb7 : Below w.heap.size w w7 := below_join hb6 hs7
    have hc7 := Keeps.of hs7 _ _ hc6
    clear hc6
    replace hA0 := hA0.next hs7
    replace H3 := H3.next hs7
    replace H4 := H4.next hs7
    replace H5 := H5.next hs7
    go_wp2_with fail
    refine (is_any B7 _ d7 _ _ _ _ A m cap l _ (by rfl) K7 hc7 HM.out hmc (by omega) hA0 F1.out).mono ?_
    rintro e w8 ⟨rfl, hs8⟩
    have hb8 : Below w.heap.size w w8 := below_join hb7 hs8
    have hc8 := Keeps.of hs8 _ _ hc7
    clear hc7
    replace hA0 := hA0.next hs8
    replace H3 := H3.next hs8
    replace H4 := H4.next hs8
    replace H5 := H5.next hs8
    go_wp2_with fail
    refine (use_bytes ⟨n2.toArray⟩ _ (by show n2.toArray.size ≤ _; simp; omega)).mono ?_
    rintro e w9 ⟨B9, d9, rfl, hd9, K9, hs9⟩
    have hb9 : Below w.heap.size w w9 := below_join hb8 hs9
    have hc9 := Keeps.of hs9 _ _ hc8
    clear hc8
    replace hA0 := hA0.next hs9
    replace H3 := H3.next hs9
    replace H4 := H4.next hs9
    replace H5 := H5.next hs9
    go_wp2_with fail
    refine (is_any B9 _ d9 _ _ _ _ A m cap l _ (by rfl) K9 hc9 HM.out hmc (by omega) hA0 F2.out).mono ?_
    rintro e w10 ⟨rfl, hs10⟩
    have hb10 : Below w.heap.size w w10 := below_join hb9 hs10
    have hc10 := Keeps.of hs10 _ _ hc9
    clear hc9
    replace hA0 := hA0.next hs10
    replace H3 := H3.next hs10
    replace H4 := H4.next hs10
    replace H5 := H5.next hs10
    go_wp2_with fail
    refine (use_ints A3 _ cA3 n3 _ (by rfl) O3.out (by omega) (by omega) H3).mono ?_
    rintro e w11 ⟨B11, d11, rfl, hd11, K11, hs11⟩
    have hb11 : Below w.heap.size w w11 := below_join hb10 hs11
    have hc11 := Keeps.of hs11 _ _ hc10
    clear hc10
    replace hA0 := hA0.next hs11
    replace H3 := H3.next hs11
    replace H4 := H4.next hs11
    replace H5 := H5.next hs11
    go_wp2_with fail
    refine (is_any B11 _ d11 _ _ _ _ A m cap l _ (by rfl) K11 hc11 HM.out hmc (by omega) hA0 F3.out).mono ?_
    rintro e w12 ⟨rfl, hs12⟩
    have hb12 : Below w.heap.size w w12 := below_join hb11 hs12
    have hc12 := Keeps.of hs12 _ _ hc11
    clear hc11
    replace hA0 := hA0.next hs12
    replace H3 := H3.next hs12
    replace H4 := H4.next hs12
    replace H5 := H5.next hs12
    go_wp2_with fail
    refine (BytesPost.eq (by rw [strs_of]) (use_strings A4 _ cA4 (n4.map fun s => (⟨s.toArray⟩ : ByteArray)) _ (by rw [List.length_map]) (by rw [strs_of]; omega) (by rw [List.length_map]; omega) (by rw [strV_toList]; exact H4))).mono ?_
    rintro e w13 ⟨B13, d13, rfl, hd13, K13, hs13⟩
    have hb13 : Below w.heap.size w w13 := below_join hb12 hs13
    have hc13 := Keeps.of hs13 _ _ hc12
    clear hc12
    replace hA0 := hA0.next hs13
    replace H3 := H3.next hs13
    replace H4 := H4.next hs13
    replace H5 := H5.next hs13
    go_wp2_with fail
    refine (is_any B13 _ d13 _ _ _ _ A m cap l _ (by rfl) K13 hc13 HM.out hmc (by omega) hA0 F4.out).mono ?_
    rintro e w14 ⟨rfl, hs14⟩
    have hb14 : Below w.heap.size w w14 := below_join hb13 hs14
    have hc14 := Keeps.of hs14 _ _ hc13
    clear hc13
    replace hA0 := hA0.next hs14
    replace H3 := H3.next hs14
    replace H4 := H4.next hs14
    replace H5 := H5.next hs14
    go_wp2_with fail
    refine (use_digests A5 _ cA5 n5 _ (by rfl) O5.out (by omega) (by omega) H5).mono ?_
    rintro e w15 ⟨B15, d15, rfl, hd15, K15, hs15⟩
    have hb15 : Below w.heap.size w w15 := below_join hb14 hs15
    have hc15 := Keeps.of hs15 _ _ hc14
    clear hc14
    replace hA0 := hA0.next hs15
    replace H3 := H3.next hs15
    replace H4 := H4.next hs15
    replace H5 := H5.next hs15
    go_wp2_with fail
    refine (is_any B15 _ d15 _ _ _ _ A m cap l _ (by rfl) K15 hc15 HM.out hmc (by omega) hA0 F5.out).mono ?_
    rintro e w16 ⟨rfl, hs16⟩
    have hb16 : Below w.heap.size w w16 := below_join hb15 hs16
    have hc16 := Keeps.of hs16 _ _ hc15
    clear hc15
    replace hA0 := hA0.next hs16
    replace H3 := H3.next hs16
    replace H4 := H4.next hs16
    replace H5 := H5.next hs16
    go_wp2_with fail
    go_ret
    exact ⟨rfl, hb16⟩
end Go.Proofs.Ytkbmgkaopjjkoaa
