/-
  The statement WireIntRoundTrip of layer 1, its walk. Conditions: none.
-/
import Derived.Test.YtkbmgkaopjjkoaaApp
namespace Go.Proofs.Ytkbmgkaopjjkoaa
open Go.RowKit

set_option maxRecDepth 100000 in
set_option maxHeartbeats 800000 in
theorem intRT_any (n : Int) (B : Option Addr) (m cm : Nat) (tl : List UInt8) (w : World) (hn : WM.okI n) (hm : m = tl.length) (hml : m ≤ 9223372036854775807) (hB : Holds w B (tl.map B8)) :
    Calls Try.prog 6 #[.int .i64 n, .slice B m cm] w (TruePost w) := by
  by_cases hbig : 2000 < m
  · go_enter Try.func6, Try.ntmps6
    have HM := Lib.hid hm
    clear hm
    go_wp2_with fail
    refine (sanity_any _).mono ?_
    rintro e w1 ⟨rfl, hb1⟩
    go_wp2_with fail
    go_ret
    exact ⟨rfl, hb1⟩
  · have HM := Lib.hid hm
    clear hm
    have hel := WM.encI_le hn
    have hep := WM.encI_pos n
    go_enter Try.func6, Try.ntmps6
    go_wp2_with fail
    refine (use_int n _ hn).mono ?_
    rintro e w1 ⟨A, c, rfl, hc, HA, hs1⟩
    replace hB := hB.next hs1
    obtain ⟨ad, rfl, _⟩ := HA 0 (B8 ((WM.encI n).getD 0 0)) (by rw [List.getElem?_map, List.getElem?_eq_getElem (by omega)]; simp [List.getElem?_eq_getElem (show 0 < (WM.encI n).length by omega)])
    have HG := Lib.hid (WM.getI_encI hn.1 hn.2 tl)
    have hokl : (WM.encI n).length ≤ 10 := hel
    generalize hx : WM.encI n = xs at *
    clear hx
    go_wp2_with (at_builtin; refine wpList_app rfl _ _ rfl ad xs.length xs rfl ?n1 B m cm tl rfl ?m1 HA hB ?l1 ?_)
    case n1 => rfl
    case m1 => exact HM.out
    case l1 => omega
    intro v w2 hp
    obtain ⟨A2, c2, rfl, hc2, H2, hs2⟩ := hp
    have hb2 := below_join hs1 hs2
    go_wp2_with fail
    refine (use_getInt A2 _ c2 _ (by rw [List.length_append, HM.out]) (by rw [List.length_append, ← HM.out]; omega) H2 HG.out).mono ?_
    rintro e w3 ⟨rfl, hs3⟩
    have hb3 := below_join hb2 hs3
    have z0 : ((xs.length : Int) == (xs.length : Int)) = true := by simp
    have z1 : (n == n) = true := by simp
    go_wp2_with fail
    refine (sanity_any _).mono ?_
    rintro e w4 ⟨rfl, hs4⟩
    go_wp2_with fail
    go_ret
    exact ⟨by simp; omega, below_join hb3 hs4⟩
end Go.Proofs.Ytkbmgkaopjjkoaa
