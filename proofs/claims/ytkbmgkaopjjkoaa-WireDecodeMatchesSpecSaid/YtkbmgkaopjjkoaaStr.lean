/-
  Contracts of the walks over chapter 1's byte strings: wire.addBytes, wire.Bytes, wire.getLength, wire.GetBytes. Conditions: at most 10^9 bytes.
-/
import Derived.Test.YtkbmgkaopjjkoaaGet
import Derived.Test.YtkbmgkaopjjkoaaMathLists
import Derived.Laws.BytesArg
namespace Go.Proofs.Ytkbmgkaopjjkoaa
open Go.RowKit

theorem strCells_B8 (s : ByteArray) : Lib.strCells s = s.data.toList.map B8 := rfl
theorem bytes_size (s : ByteArray) : s.data.toList.length = s.size := by rw [Array.length_toList]; rfl

set_option maxRecDepth 100000 in
set_option maxHeartbeats 800000 in
theorem addBytes_any (base : Nat) (v : Value) (m : Nat) (xs : List Value) (s : ByteArray) (w : World) (hs : s.size ≤ 1000000000)
    (hown : w.ownsRow base 5 1 v m xs) (hb : base ≤ w.heap.size) (hm : m ≤ 1000000000) :
    Calls Try.prog 39 #[v, .string s] w fun e w' =>
      ∃ v', e = .returned v' ∧ w'.ownsRow base 5 1 v' (m + (WM.encB s.data.toList).length) (xs ++ (WM.encB s.data.toList).map B8) ∧ Below base w w' := by
  obtain ⟨i0, hi, hz0, hz1, hz2⟩ := info_parts Try.info8
  have hel : (WM.encI (s.size : Int)).length ≤ 10 := WM.encI_le ⟨by omega, by omega⟩
  go_enter Try.func39, Try.ntmps39
  go_wp2_with fail
  refine (addInt_any base _ m xs (s.size : Int) _ (by omega) (by omega) hown hb hm).mono ?_
  rintro e w1 ⟨v1, rfl, hown1, hb1⟩
  have hlt1 := hown1.lt
  have hsz := hb1.size
  go_wp2_with (at_builtin; refine Lib.wpList_append_own_string _ rfl _ _ 28 9 rfl base 5 i0 Try.underlying28 Try.underlying9 hi hz0 hz1 hz2 _ _ _ rfl hown1 s rfl ?c1 ?c2 ?c3 ?_)
  case c1 => unfold maxLen; omega
  case c2 => omega
  case c3 => omega
  intro v2 w2 hown2 hgrow _
  clear hown1
  go_wp2
  go_ret
  refine ⟨_, rfl, ?_, hb1.grown hgrow (by omega) (fun k hk => (hlt1 k hk).1)⟩
  unfold WM.encB
  rw [bytes_size, List.length_append, bytes_size, List.map_append, ← Nat.add_assoc, ← strCells_B8]
  exact hown2

theorem bytes_any (s : ByteArray) (w : World) (hs : s.size ≤ 1000000000) :
    Calls Try.prog 16 #[.string s] w fun e w' =>
      ∃ v', e = .returned v' ∧ w'.ownsRow w.heap.size 5 1 v' (WM.encB s.data.toList).length ((WM.encB s.data.toList).map B8) ∧ Below w.heap.size w w' := by
  go_enter Try.func16, Try.ntmps16
  go_wp2_with (go_at_call 39; refine (addBytes_any w.heap.size _ 0 [] s _ hs (World.ownsRow_nil _ _ _ _) (Nat.le_refl _) (by decide)).mono ?_; rintro e w' ⟨v', rfl, hown, hb⟩)
  go_ret
  exact ⟨_, rfl, by simpa using hown, hb⟩

theorem getInt_at {l : List UInt8} {n : Int} {u : Nat} {x : Int} (h : WM.getI l = (n, u, x)) (A : Option Addr) (cap : Nat) (w : World) (hl : l.length ≤ 1000000000) (hh : Holds w A (l.map B8)) :
    Calls Try.prog 24 #[.slice A l.length cap] w fun e w' => e = .returned (.tuple #[.int .i64 n, .int .i64 u, .int .i64 x]) ∧ w = w' :=
  (getInt_any A cap l w hl hh).mono fun e w' he => by unfold GetPost at he; rw [h] at he; exact he

theorem getLen_any (A : Option Addr) (cap : Nat) (l : List UInt8) (s : Nat) (w : World) (hl : l.length ≤ 1000000000) (hs : 1 ≤ s) (hs2 : s ≤ 1000) (hh : Holds w A (l.map B8)) :
    Calls Try.prog 45 #[.slice A l.length cap, .int .i64 (s : Int)] w fun e w' =>
      e = .returned (.tuple #[.int .i64 ((WM.getL l s).1 : Int), .int .i64 ((WM.getL l s).2.1 : Int), .int .i64 (WM.getL l s).2.2]) ∧ w = w' := by
  rcases WM.getL_cases l s with ⟨h1, h2⟩ | ⟨h1, h2⟩ | ⟨n, u, h1, hu, hu10, hn1, hn2, hn, h2⟩ | ⟨n, u, h1, hu, hu10, hn1, hn, h2⟩ | ⟨n, u, h1, hu, hu10, hn, h2⟩
  · rw [h2]; clear h2
    have H1 := Lib.hid h1; clear h1
    go_enter Try.func45, Try.ntmps45
    go_wp2_with (go_at_call 24; refine (getInt_at H1.out _ _ _ hl hh).mono ?_; rintro e w' ⟨rfl, rfl⟩)
    go_ret3
    exact ⟨rfl, rfl⟩
  · rw [h2]; clear h2
    have H1 := Lib.hid h1; clear h1
    go_enter Try.func45, Try.ntmps45
    go_wp2_with (go_at_call 24; refine (getInt_at H1.out _ _ _ hl hh).mono ?_; rintro e w' ⟨rfl, rfl⟩)
    go_ret3
    exact ⟨rfl, rfl⟩
  · rw [h2]; clear h2
    have H1 := Lib.hid h1; clear h1
    go_enter Try.func45, Try.ntmps45
    go_wp2_with (go_at_call 24; refine (getInt_at H1.out _ _ _ hl hh).mono ?_; rintro e w' ⟨rfl, rfl⟩)
    go_ret3
    exact ⟨rfl, rfl⟩
  · rw [h2]; clear h2
    have H1 := Lib.hid h1; clear h1
    have hq : ((l.length : Int) - (u : Int)) / (s : Int) < (n : Int) := by
      rw [show (l.length : Int) - (u : Int) = ((l.length - u : Nat) : Int) by omega]; exact_mod_cast hn
    clear hn
    go_enter Try.func45, Try.ntmps45
    go_wp2_with (go_at_call 24; refine (getInt_at H1.out _ _ _ hl hh).mono ?_; rintro e w' ⟨rfl, rfl⟩)
    go_ret3
    exact ⟨rfl, rfl⟩
  · rw [h2]; clear h2
    have H1 := Lib.hid h1; clear h1
    have hq : (n : Int) ≤ ((l.length : Int) - (u : Int)) / (s : Int) := by
      rw [show (l.length : Int) - (u : Int) = ((l.length - u : Nat) : Int) by omega]; exact_mod_cast hn
    clear hn
    go_enter Try.func45, Try.ntmps45
    go_wp2_with (go_at_call 24; refine (getInt_at H1.out _ _ _ hl hh).mono ?_; rintro e w' ⟨rfl, rfl⟩)
    go_ret3
    exact ⟨rfl, rfl⟩

theorem ofNat_toNat8 (c : UInt8) : UInt8.ofNat ((c.toNat : Int)).toNat = c := by simp
/-- 'string(b)' of a slice that holds the bytes of a list. -/
theorem run_conv (w : World) (A : Option Addr) (cap : Nat) (l : List UInt8) (hh : Holds w A (l.map B8)) :
    (convert 28 9 (.slice A l.length cap)).run Try.prog w = .ok (.string ⟨l.toArray⟩) w := by
  rcases A with _ | ad
  · have hl : l = [] := by
      cases l with
      | nil => rfl
      | cons c r => obtain ⟨ad, h, _⟩ := hh 0 (B8 c) rfl; cases h
    subst hl
    rw [run_convert_bytes_nil w 28 5 Try.underlying28 Try.underlying5 _ _ 9 Try.underlying9]
    rfl
  · have hl : (loadCells ad l.length).run Try.prog w = .ok ((l.map fun c => (c.toNat : Int)).map (Value.int .u8)).toArray w := by
      have := run_loadCells_list (P := Try.prog) w ad (l.map B8) (fun j v hj => by
        obtain ⟨ad', e, hc⟩ := hh j v hj
        cases e
        exact hc)
      rw [List.length_map] at this
      rw [this, List.map_map]
      rfl
    rw [run_convert_bytes_string w 28 9 5 _ _ _ Try.underlying28 Try.underlying5 Try.underlying9, run_bytesToString w ad l.length cap _ hl, foldl_push_bytes]
    congr 2
    apply ByteArray.ext
    apply Array.toList_inj.1
    simp only [ByteArray.empty, ByteArray.emptyWithCapacity, List.map_map]
    rw [show ((fun n : Int => UInt8.ofNat n.toNat) ∘ fun c : UInt8 => (c.toNat : Int)) = id from funext ofNat_toNat8, List.map_id]
    simp
    rfl

theorem add_add (a : Addr) (i j : Nat) : (a.add i).add j = a.add (i + j) := by
  unfold Addr.add
  by_cases hi : i = 0 <;> by_cases hj : j = 0 <;> simp [hi, hj, Nat.add_assoc]
/-- A part of what a slice holds. -/
theorem Holds.cut {w : World} {A : Option Addr} {xs : List Value} (h : Holds w A xs) {k n m : Nat} (hm : xs.length ≤ m) : Holds w (if m = k then A else A.map (·.add k)) ((xs.drop k).take n) := by
  intro j u hu
  rw [List.getElem?_take] at hu
  split at hu
  · rw [List.getElem?_drop] at hu
    obtain ⟨ad, rfl, hc⟩ := h _ _ hu
    have hlt : k + j < xs.length := by
      rcases Nat.lt_or_ge (k + j) xs.length with hl | hl
      · exact hl
      · rw [List.getElem?_eq_none hl] at hu; cases hu
    rw [if_neg (by omega)]
    exact ⟨_, rfl, by rw [add_add]; exact hc⟩
  · cases hu

set_option maxRecDepth 100000 in
theorem getBytes_any (A : Option Addr) (cap : Nat) (l : List UInt8) (w : World) (hl : l.length ≤ 1000000000) (hcap : l.length ≤ cap) (hh : Holds w A (l.map B8)) :
    Calls Try.prog 26 #[.slice A l.length cap] w fun e w' =>
      e = .returned (.tuple #[.string ⟨(WM.getB l).1.toArray⟩, .int .i64 ((WM.getB l).2.1 : Int), .int .i64 (WM.getB l).2.2]) ∧ w = w' := by
  have hL := getLen_any A cap l 1 w hl (by omega) (by omega) hh
  by_cases h0 : (WM.getL l 1).2.2 = 0
  · have hB : WM.getB l = ((l.drop (WM.getL l 1).2.1).take (WM.getL l 1).1, (WM.getL l 1).2.1 + (WM.getL l 1).1, 0) := by unfold WM.getB; rw [if_pos h0]
    obtain ⟨_, h1, _, h2⟩ := WM.getL_ok (l := l) (s := 1) (n := (WM.getL l 1).1) (u := (WM.getL l 1).2.1) (by rw [← h0])
    rw [hB]; clear hB
    rw [h0] at hL
    generalize (WM.getL l 1).1 = n at hL h2 ⊢
    generalize (WM.getL l 1).2.1 = u at hL h1 h2 ⊢
    clear h0
    rw [Nat.div_one] at h2
    have hc := hh.cut (k := u) (n := n) (m := cap) (by simpa using hcap)
    rw [← List.map_drop, ← List.map_take] at hc
    have hr := run_conv w _ (cap - u) _ hc
    rw [show ((l.drop u).take n).length = n by simp; omega] at hr
    have HL := Lib.hid hL
    clear hL hh hc
    by_cases hcu : cap = u
    · subst hcu
      rw [if_pos rfl, Nat.sub_self] at hr
      go_enter Try.func26, Try.ntmps26
      go_wp2_with (go_at_call 45; refine HL.out.mono ?_; rintro e w' ⟨rfl, rfl⟩)
      go_ret3
      exact ⟨by go_num, rfl⟩
    · rw [if_neg hcu] at hr
      go_enter Try.func26, Try.ntmps26
      go_wp2_with (go_at_call 45; refine HL.out.mono ?_; rintro e w' ⟨rfl, rfl⟩)
      go_ret3
      exact ⟨by go_num, rfl⟩
  · have hB : WM.getB l = ([], 0, (WM.getL l 1).2.2) := by unfold WM.getB; rw [if_neg h0]
    rw [hB]; clear hB
    have b0 : ((WM.getL l 1).2.2 != 0) = true := by rw [bne_iff_ne]; exact h0
    generalize (WM.getL l 1).1 = n at hL
    generalize (WM.getL l 1).2.1 = u at hL
    generalize (WM.getL l 1).2.2 = x at hL b0 ⊢
    clear h0
    go_enter Try.func26, Try.ntmps26
    have HL := Lib.hid hL
    clear hL hh
    go_wp2_with (first | (go_at_call 45; refine HL.out.mono ?_; rintro e w' ⟨rfl, rfl⟩))
    go_ret3
    exact ⟨rfl, rfl⟩
end Go.Proofs.Ytkbmgkaopjjkoaa
