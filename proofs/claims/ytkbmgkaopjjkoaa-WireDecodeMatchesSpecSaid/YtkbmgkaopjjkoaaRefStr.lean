/-
  Contracts of the walks over the reference's decodings of byte strings and lists. Conditions: at most 10^9 bytes.
-/
import Derived.Test.YtkbmgkaopjjkoaaRefGet
namespace Go.Proofs.Ytkbmgkaopjjkoaa
open Go.RowKit

theorem refInt_at {l : List UInt8} {n : Int} {u : Nat} {x : Int} (h : WM.getI l = (n, u, x)) (A : Option Addr) (cap : Nat) (w : World) (hl : l.length ≤ 1000000000) (hh : Holds w A (l.map B8)) :
    Calls Try.prog 25 #[.slice A l.length cap] w fun e w' => e = .returned (.tuple #[.int .i64 n, .int .i64 u, .int .i64 x]) ∧ w = w' :=
  (refGetInt_any A cap l w hl hh).mono fun e w' he => by unfold GetPost at he; rw [h] at he; exact he

theorem refLen_any (A : Option Addr) (cap : Nat) (l : List UInt8) (s : Nat) (w : World) (hl : l.length ≤ 1000000000) (hs : 1 ≤ s) (hs2 : s ≤ 1000) (hh : Holds w A (l.map B8)) :
    Calls Try.prog 47 #[.slice A l.length cap, .int .i64 (s : Int)] w fun e w' =>
      e = .returned (.tuple #[.int .i64 ((WM.getL l s).1 : Int), .int .i64 ((WM.getL l s).2.1 : Int), .int .i64 (WM.getL l s).2.2]) ∧ w = w' := by
  rcases WM.getL_cases l s with ⟨h1, h2⟩ | ⟨h1, h2⟩ | ⟨n, u, h1, hu, hu10, hn1, hn2, hn, h2⟩ | ⟨n, u, h1, hu, hu10, hn1, hn, h2⟩ | ⟨n, u, h1, hu, hu10, hn, h2⟩
  · rw [h2]; clear h2
    have H1 := Lib.hid h1; clear h1
    go_enter Try.func47, Try.ntmps47
    go_wp2_with (go_at_call 25; refine (refInt_at H1.out _ _ _ hl hh).mono ?_; rintro e w' ⟨rfl, rfl⟩)
    go_ret3
    exact ⟨rfl, rfl⟩
  · rw [h2]; clear h2
    have H1 := Lib.hid h1; clear h1
    go_enter Try.func47, Try.ntmps47
    go_wp2_with (go_at_call 25; refine (refInt_at H1.out _ _ _ hl hh).mono ?_; rintro e w' ⟨rfl, rfl⟩)
    go_ret3
    exact ⟨rfl, rfl⟩
  · rw [h2]; clear h2
    have H1 := Lib.hid h1; clear h1
    go_enter Try.func47, Try.ntmps47
    go_wp2_with (go_at_call 25; refine (refInt_at H1.out _ _ _ hl hh).mono ?_; rintro e w' ⟨rfl, rfl⟩)
    go_ret3
    exact ⟨rfl, rfl⟩
  · rw [h2]; clear h2
    have H1 := Lib.hid h1; clear h1
    have hq : ((l.length : Int) - (u : Int)) / (s : Int) < (n : Int) := by
      rw [show (l.length : Int) - (u : Int) = ((l.length - u : Nat) : Int) by omega]; exact_mod_cast hn
    clear hn
    go_enter Try.func47, Try.ntmps47
    go_wp2_with (go_at_call 25; refine (refInt_at H1.out _ _ _ hl hh).mono ?_; rintro e w' ⟨rfl, rfl⟩)
    go_ret3
    exact ⟨rfl, rfl⟩
  · rw [h2]; clear h2
    have H1 := Lib.hid h1; clear h1
    have hq : (n : Int) ≤ ((l.length : Int) - (u : Int)) / (s : Int) := by
      rw [show (l.length : Int) - (u : Int) = ((l.length - u : Nat) : Int) by omega]; exact_mod_cast hn
    clear hn
    go_enter Try.func47, Try.ntmps47
    go_wp2_with (go_at_call 25; refine (refInt_at H1.out _ _ _ hl hh).mono ?_; rintro e w' ⟨rfl, rfl⟩)
    go_ret3
    exact ⟨rfl, rfl⟩


theorem refGetBytes_any (A : Option Addr) (cap : Nat) (l : List UInt8) (w : World) (hl : l.length ≤ 1000000000) (hcap : l.length ≤ cap) (hh : Holds w A (l.map B8)) :
    Calls Try.prog 27 #[.slice A l.length cap] w fun e w' =>
      e = .returned (.tuple #[.string ⟨(WM.getB l).1.toArray⟩, .int .i64 ((WM.getB l).2.1 : Int), .int .i64 (WM.getB l).2.2]) ∧ w = w' := by
  rcases WM.getL_cases l 1 with ⟨h1, h2⟩ | ⟨h1, h2⟩ | ⟨n, u, h1, hu, hu10, hn1, hn2, hn, h2⟩ | ⟨n, u, h1, hu, hu10, hn1, hn, h2⟩ | ⟨n, u, h1, hu, hu10, hn, h2⟩
  · rw [WM.getB_err h2 (by decide)]; clear h2
    have H1 := Lib.hid h1; clear h1
    go_enter Try.func27, Try.ntmps27
    go_wp2_with (go_at_call 25; refine (refInt_at H1.out _ _ _ hl hh).mono ?_; rintro e w' ⟨rfl, rfl⟩)
    go_ret3
    exact ⟨rfl, rfl⟩
  · rw [WM.getB_err h2 (by decide)]; clear h2
    have H1 := Lib.hid h1; clear h1
    go_enter Try.func27, Try.ntmps27
    go_wp2_with (go_at_call 25; refine (refInt_at H1.out _ _ _ hl hh).mono ?_; rintro e w' ⟨rfl, rfl⟩)
    go_ret3
    exact ⟨rfl, rfl⟩
  · rw [WM.getB_err h2 (by decide)]; clear h2
    have H1 := Lib.hid h1; clear h1
    go_enter Try.func27, Try.ntmps27
    go_wp2_with (go_at_call 25; refine (refInt_at H1.out _ _ _ hl hh).mono ?_; rintro e w' ⟨rfl, rfl⟩)
    go_ret3
    exact ⟨rfl, rfl⟩
  · rw [WM.getB_err h2 (by decide)]; clear h2
    have H1 := Lib.hid h1; clear h1
    rw [Nat.div_one] at hn
    have hq : (l.length : Int) - (u : Int) < (n : Int) := by omega
    go_enter Try.func27, Try.ntmps27
    go_wp2_with (go_at_call 25; refine (refInt_at H1.out _ _ _ hl hh).mono ?_; rintro e w' ⟨rfl, rfl⟩)
    go_ret3
    exact ⟨rfl, rfl⟩
  · rw [WM.getB_of h2]; clear h2
    have H1 := Lib.hid h1; clear h1
    rw [Nat.div_one] at hn
    have hq : (n : Int) ≤ (l.length : Int) - (u : Int) := by omega
    have hc := hh.cut (k := u) (n := n) (m := cap) (by simpa using hcap)
    rw [← List.map_drop, ← List.map_take] at hc
    have hr := run_conv w _ (cap - u) _ hc
    rw [show ((l.drop u).take n).length = n by simp; omega] at hr
    clear hc
    by_cases hcu : cap = u
    · subst hcu
      rw [if_pos rfl, Nat.sub_self] at hr
      go_enter Try.func27, Try.ntmps27
      go_wp2_with (go_at_call 25; refine (refInt_at H1.out _ _ _ hl hh).mono ?_; rintro e w' ⟨rfl, rfl⟩)
      go_ret3
      exact ⟨by go_num, rfl⟩
    · rw [if_neg hcu] at hr
      go_enter Try.func27, Try.ntmps27
      go_wp2_with (go_at_call 25; refine (refInt_at H1.out _ _ _ hl hh).mono ?_; rintro e w' ⟨rfl, rfl⟩)
      go_ret3
      exact ⟨by go_num, rfl⟩
end Go.Proofs.Ytkbmgkaopjjkoaa
