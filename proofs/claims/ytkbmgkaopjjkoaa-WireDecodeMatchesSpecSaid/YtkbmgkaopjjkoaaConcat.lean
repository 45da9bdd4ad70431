/-
  The statement WireConcat of layer 1, its walk. Conditions: what came in takes at most 2^47 bytes.
-/
import Derived.Test.YtkbmgkaopjjkoaaApp
namespace Go.Proofs.Ytkbmgkaopjjkoaa
open Go.RowKit

theorem ba_eq (s : ByteArray) : (⟨s.data.toList.toArray⟩ : ByteArray) = s := by cases s; simp
theorem flat_le (b : Nat) {α : Type} (enc : α → List UInt8) : ∀ (xs : List α), (∀ x ∈ xs, (enc x).length ≤ b) → (xs.flatMap enc).length ≤ xs.length * b
  | [], _ => by simp
  | x :: xs, h => by
    have h1 := h x (by simp)
    have h2 := flat_le b enc xs (fun y hy => h y (by simp [hy]))
    simp only [List.flatMap_cons, List.length_append, List.length_cons, Nat.succ_mul]; omega
theorem lenN_le (n : Nat) (h : n ≤ 1000000000) : (WM.encI (n : Int)).length ≤ 10 := WM.encI_le ⟨by omega, by omega⟩
theorem encInts_le {xs : List Int} (hok : ∀ x ∈ xs, WM.okI x) (h : xs.length ≤ 1000000000) : (WM.encAll WM.encI xs).length ≤ 10 + xs.length * 10 := by
  have h1 := lenN_le xs.length h
  have h2 := flat_le 10 WM.encI xs (fun x hx => WM.encI_le (hok x hx))
  unfold WM.encAll; rw [List.length_append]; omega
theorem encB_le {s : List UInt8} (h : s.length ≤ 1000000000) : (WM.encB s).length ≤ 10 + s.length := by
  have h1 := lenN_le s.length h
  unfold WM.encB; rw [List.length_append]; omega
theorem encAll_pos {α : Type} (enc : α → List UInt8) (xs : List α) : 1 ≤ (WM.encAll enc xs).length := by
  have := WM.encI_pos (xs.length : Int)
  unfold WM.encAll; rw [List.length_append]; omega
theorem Holds.some_ {w : World} {A : Option Addr} {l : List UInt8} (h : Holds w A (l.map B8)) (hl : 1 ≤ l.length) : ∃ ad, A = some ad := by
  obtain ⟨ad, e, _⟩ := h 0 (B8 (l.getD 0 0)) (by rw [List.getElem?_map, List.getElem?_eq_getElem (by omega)]; simp [List.getElem?_eq_getElem (show 0 < l.length by omega)])
  exact ⟨ad, e⟩
theorem own_keep {w w' : World} {base : Nat} {e : TypeId} {size : Nat} {v : Value} {n : Nat} {xs : List Value} (h : w.ownsRow base e size v n xs) (hb : Below w.heap.size w w') : w'.ownsRow base e size v n xs :=
  h.kept (row := none) ⟨hb.os, hb.tape, hb.output, hb.size, fun k hk _ => hb.block k hk⟩ (Classical.em _)

set_option maxRecDepth 100000 in
set_option maxHeartbeats 1600000 in
theorem concat_any (s : ByteArray) (A : Option Addr) (m cap : Nat) (l : List Int) (w : World) (hs : s.size ≤ 140737488351232) (hm : m = l.length) (hml : m * 8 ≤ 140737488351232) (hok : ∀ z ∈ l, WM.okI z) (hA : Holds w A (l.map (Value.int .i64))) :
    Calls Try.prog 10 #[.string s, .slice A m cap] w (TruePost w) := by
  have HM := Lib.hid hm
  clear hm
  by_cases hbig : 2000 < s.size + m
  · go_enter Try.func10, Try.ntmps10
    go_wp2_with fail
    refine (sanity_any _).mono ?_
    rintro e w1 ⟨rfl, hb1⟩
    go_wp2_with fail
    go_ret
    exact ⟨rfl, hb1⟩
  · obtain ⟨i0, hi, hz0, hz1, hz2⟩ := info_parts Try.info8
    have hl2 : l.length ≤ 2000 := by rw [← HM.out]; omega
    have hbl := encInts_le hok (by omega)
    have hsl : s.data.toList.length ≤ 2000 := by rw [bytes_size]; omega
    have hsb := encB_le (s := s.data.toList) (by omega)
    have hp1 := WM.encB_pos s.data.toList
    have hp2 := encAll_pos WM.encI l
    have HG1 := Lib.hid (WM.codeB.back s.data.toList (WM.encAll WM.encI l) (by unfold WM.okB; omega))
    have HG2 := Lib.hid (WM.codeInts.back l [] ⟨hok, by omega⟩)
    go_enter Try.func10, Try.ntmps10
    go_wp2_with fail
    refine (bytes_any s _ (by omega)).mono ?_
    rintro e w1 ⟨v1, rfl, hown1, hb1⟩
    go_wp2_with fail
    refine (use_ints A m cap l _ HM.out hok (by omega) (by omega) (hA.next hb1)).mono ?_
    rintro e w2 ⟨A2, c2, rfl, hc2, H2, hs2⟩
    have hb2 := below_join hb1 hs2
    have hown2 := own_keep hown1 hs2
    clear hown1
    obtain ⟨ad2, rfl⟩ := H2.some_ hp2
    generalize hx : WM.encB s.data.toList = xs at *
    generalize hy : WM.encAll WM.encI l = ys at *
    clear hx hy
    have hlt2 := hown2.lt
    have hsz := hb2.size
    go_wp2_with (at_builtin; refine wpList_append_own _ rfl _ _ 28 rfl w.heap.size 5 i0 (.int .u8 0) 1 1 Try.underlying28 hi hz0 hz1 hz2 rfl (by decide) _ _ _ rfl hown2 ad2 ys.length c2 (ys.map B8) rfl ?n1 H2.cells (B8_one _) ?c3 ?c4 ?c5 ?_)
    case n1 => rw [List.length_map, Nat.mul_one]
    case c3 => unfold maxLen; omega
    case c4 => omega
    case c5 => omega
    intro v3 w3 hown3 hgrow _
    have hb3 : Below w.heap.size w w3 := hb2.grown hgrow (by omega) (fun k hk => (hlt2 k hk).1)
    replace hA := hA.next hb3
    obtain ⟨A3, c3, rfl, hc3, H3⟩ := holds_own hown3
    rw [← List.map_append] at H3
    clear hown3 hown2 hgrow H2
    go_wp2_with fail
    refine (use_getBytes A3 _ c3 _ (by rw [List.length_append]) (by rw [List.length_append]; omega) (by rw [List.length_append]; omega) H3 HG1.out).mono ?_
    rw [ba_eq]
    rintro e w4 ⟨rfl, hs4⟩
    have hb4 := below_join hb3 hs4
    replace hA := hA.next hs4
    replace H3 := H3.next hs4
    have hne : ¬ c3 = xs.length := by omega
    have H5 := H3.rest (k := xs.length) (m := c3) (by rw [List.length_append]; omega)
    rw [if_neg hne, List.drop_left] at H5
    rw [List.append_nil] at HG2
    go_wp2_with fail
    refine (use_getInts _ _ _ _ (by omega) (by omega) (by omega) H5 HG2.out).mono ?_
    rintro e w5 ⟨A5, c5, rfl, hc5, H6, hs5⟩
    have hb5 := below_join hb4 hs5
    replace hA := hA.next hs5
    have zs : (s.toList == s.toList) = true := by simp
    go_wp2_with fail
    refine (sanity_any _).mono ?_
    rintro e w6 ⟨rfl, hs6⟩
    have hb6 := below_join hb5 hs6
    go_wp2_with fail
    refine (sameInts_any _ _ _ _ _ _ l _ (by rfl) HM.out (by omega) (H6.next hs6) (hA.next hs6)).mono ?_
    rintro e w7 ⟨rfl, hs7⟩
    go_wp2_with fail
    go_ret
    exact ⟨by simp, below_join hb6 hs7⟩
end Go.Proofs.Ytkbmgkaopjjkoaa
