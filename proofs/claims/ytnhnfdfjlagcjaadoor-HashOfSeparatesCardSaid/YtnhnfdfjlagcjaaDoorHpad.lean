/-
  Contracts of the walks over the reference's padded. Conditions: at most 10^9 bytes.
-/
import Derived.Test.YtnhnfdfjlagcjaaDoorHtext
import Derived.Laws.AppendOwnNone
namespace Go.Proofs.YtnhnfdfjlagcjaaDoor
open Go.RowKit

theorem holds_cells {w : World} {ad : Addr} {xs : List Value} (h : Holds w (some ad) xs) : ∀ j u, xs[j]? = some u → w.cell? (ad.add j) = some u := fun j u hu => by
  obtain ⟨ad', e, hc⟩ := h j u hu
  cases e
  exact hc
def lenOfV : Value → Nat
  | .slice _ n _ => n
  | _ => 0
theorem own_len {w : World} {base : Nat} {v : Value} {n : Nat} {xs : List Value} (h : w.ownsRow base 5 1 v n xs) : lenOfV v = n := by
  obtain ⟨A, c, rfl, _⟩ := holds_own h; rfl
/-- The message, the end mark and j zero bytes. -/
def padTo (l : List UInt8) (j : Nat) : List UInt8 := l ++ 128 :: SM.zeros j
theorem padTo_length (l : List UInt8) (j : Nat) : (padTo l j).length = l.length + 1 + j := by unfold padTo; rw [List.length_append, List.length_cons, SM.zeros_length]; omega
theorem padTo_succ (l : List UInt8) (j : Nat) : padTo l (j + 1) = padTo l j ++ [0] := by
  unfold padTo SM.zeros
  rw [List.replicate_succ', List.append_assoc]
  rfl
def padZ (l : List UInt8) : Nat := (119 - l.length % 64) % 64
theorem pad_eq (l : List UInt8) : SM.pad l = padTo l (padZ l) ++ SM.len8 l := rfl
theorem hi_toNat (l : List UInt8) (hl : l.length ≤ 100000000) : (SM.hi l).toNat = 0 := by
  unfold SM.hi; rw [UInt32.toNat_ofNat', Nat.div_eq_of_lt (by omega)]
theorem lo_toNat (l : List UInt8) (hl : l.length ≤ 100000000) : (SM.lo l).toNat = 8 * l.length := by
  unfold SM.lo; rw [UInt32.toNat_ofNat', Nat.mod_eq_of_lt (by omega)]
theorem len8_at (l : List UInt8) (hl : l.length ≤ 100000000) (k : Nat) (hk : k < 8) : ∃ b, (SM.len8 l)[k]? = some b ∧ B8 b = .int .u8 (8 * (l.length : Int) / 2 ^ (56 - 8 * k) % 256) := by
  have h0 := hi_toNat l hl
  have h1 := lo_toNat l hl
  have e : k = 0 ∨ k = 1 ∨ k = 2 ∨ k = 3 ∨ k = 4 ∨ k = 5 ∨ k = 6 ∨ k = 7 := by omega
  rcases e with rfl | rfl | rfl | rfl | rfl | rfl | rfl | rfl
  · refine ⟨_, rfl, ?_⟩; rw [b24, h0, show (2 : Int) ^ (56 - 8 * 0) = 72057594037927936 from rfl]; congr 1; omega
  · refine ⟨_, rfl, ?_⟩; rw [b16, h0, show (2 : Int) ^ (56 - 8 * 1) = 281474976710656 from rfl]; congr 1; omega
  · refine ⟨_, rfl, ?_⟩; rw [b8, h0, show (2 : Int) ^ (56 - 8 * 2) = 1099511627776 from rfl]; congr 1; omega
  · refine ⟨_, rfl, ?_⟩; rw [b0, h0, show (2 : Int) ^ (56 - 8 * 3) = 4294967296 from rfl]; congr 1; omega
  · refine ⟨_, rfl, ?_⟩; rw [b24, h1, show (2 : Int) ^ (56 - 8 * 4) = 16777216 from rfl]; congr 1; omega
  · refine ⟨_, rfl, ?_⟩; rw [b16, h1, show (2 : Int) ^ (56 - 8 * 5) = 65536 from rfl]; rfl
  · refine ⟨_, rfl, ?_⟩; rw [b8, h1, show (2 : Int) ^ (56 - 8 * 6) = 256 from rfl]; rfl
  · refine ⟨_, rfl, ?_⟩; rw [b0, h1, show (2 : Int) ^ (56 - 8 * 7) = 1 from rfl]; congr 1; omega
def PdRel1 (l : List UInt8) (w : World) (v : Value) (wr : World) : Prop :=
  ∃ j : Nat, j ≤ padZ l ∧ wr.ownsRow w.heap.size 5 1 v (padTo l j).length ((padTo l j).map B8) ∧ Below w.heap.size w wr
def PdRel2 (l : List UInt8) (w : World) (v i : Value) (wr : World) : Prop :=
  ∃ k : Nat, k ≤ 8 ∧ i = .int .i64 k ∧ wr.ownsRow w.heap.size 5 1 v ((padTo l (padZ l)).length + k) (((padTo l (padZ l)) ++ (SM.len8 l).take k).map B8) ∧ Below w.heap.size w wr

set_option maxRecDepth 100000 in
set_option maxHeartbeats 1600000 in
theorem padded_any (ad : Addr) (cap n : Nat) (l : List UInt8) (w : World) (hn : n = l.length) (hl : l.length ≤ 100000000) (hh : Holds w (some ad) (l.map B8)) :
    Calls Tryd.prog 47 #[.slice (some ad) n cap] w (PutPost (SM.pad l) w) := by
  obtain ⟨i0, hi, hz0, hz1, hz2⟩ := info_parts Tryd.info8
  have HN := Lib.hid hn
  have hn1 : n ≤ l.length := Nat.le_of_eq hn
  have hn2 : l.length ≤ n := Nat.le_of_eq hn.symm
  clear hn
  go_enter Tryd.func47, Tryd.ntmps47
  have hown0 := World.ownsRow_lit (base := w.heap.size) (e := 5) (size := 1) w #[] 0 (Nat.le_refl _) (by decide) rfl
  have hh0 := hh.next (below_new w (.cells #[] 5))
  go_wp2_with (at_builtin; refine wpList_append_own _ rfl _ _ 22 rfl w.heap.size 5 i0 (.int .u8 0) 1 1 Tryd.underlying22 hi hz0 hz1 hz2 rfl (by decide) _ _ _ rfl hown0 ad n cap (l.map B8) rfl ?c1 ?c2 ?c3 ?c4 ?c5 ?c6 ?_)
  case c1 => omega
  case c2 => exact fun j a ha => holds_cells hh0 j _ (by simp [ha])
  case c3 => exact fun a _ => rfl
  case c4 => unfold maxLen; omega
  case c5 => omega
  try (case c6 => exact (below_new w _).size)
  intro v1 w1 hown1 hgrow1 _
  have hlt0 := hown0.lt
  have hbel1 := (below_new w (.cells #[] 5)).grown hgrow1 (below_new w _).size (fun j hj => (hlt0 j hj).1)
  have hsz1 := hbel1.size
  have hlt1 := hown1.lt
  clear hown0 hlt0 hgrow1 hh0
  go_wp2_with (at_builtin; refine wpList_append_own _ rfl _ _ 22 rfl w.heap.size 5 i0 (.int .u8 0) 1 1 Tryd.underlying22 hi hz0 hz1 hz2 rfl (by decide) _ _ _ rfl (hown1.alloc _) ⟨w1.heap.size, 0, none⟩ 1 1 [.int .u8 128] rfl ?d1 ?d2 ?d3 ?d4 ?d5 ?d6 ?_)
  case d1 => rfl
  case d2 => exact fun j u hu => one_cellB hu
  case d3 => exact one_cell1 rfl
  case d4 => unfold maxLen; omega
  case d5 => omega
  case d6 => simp; omega
  intro v2 w2 hown2 hgrow2 _
  have hbel2 := (hbel1.alloc hsz1 (.cells #[Value.int .u8 128] 5)).grown hgrow2 (by simp; omega) (fun j hj => (hlt1 j hj).1)
  have hown2' : w2.ownsRow w.heap.size 5 1 v2 (padTo l 0).length ((padTo l 0).map B8) := by
    have e : (padTo l 0).length = 0 + n + 1 := by rw [padTo_length, HN.out]; omega
    have e2 : (padTo l 0).map B8 = l.map B8 ++ [.int .u8 128] := by unfold padTo; rw [List.map_append]; rfl
    rw [e, e2, Nat.zero_add]; exact hown2
  clear hown1 hown2 hlt1 hgrow2 hbel1 hsz1
  go_wp2
  go_loopw [3] (PdRel1 l w) (fun v _ => l.length + 65 - lenOfV v)
  case atStart => exact ⟨0, Nat.zero_le _, hown2', hbel2⟩
  case round =>
    clear hown2' hbel2
    obtain ⟨j, hj, hown, hbel⟩ := hrel
    have hpl := padTo_length l j
    have hzb : padZ l < 64 := by unfold padZ; omega
    have hsz := hbel.size
    have hlen := own_len hown
    obtain ⟨A, c, hv, _, _⟩ := holds_own hown
    obtain ⟨N, hN⟩ : ∃ N, Hid ((padTo l j).length = N) := ⟨_, rfl⟩
    have hNl : Hid (N = l.length + 1 + j) := by rw [← hN.out]; exact hpl
    rw [hN.out] at hv hlen hown
    have hNb : N ≤ 100000100 := by have := hNl.out; omega
    have hlt := hown.lt
    subst hv
    clear hpl
    by_cases hjz : j = padZ l
    · have ht : ((N : Int) % 64 == 56) = true := by
        have := hNl.out
        rw [beq_iff_eq]; unfold padZ at hjz; omega
      have ht2 : ((N : Int) % 64 != 56) = false := by rw [bne, ht]; rfl
      have hjz' := Lib.hid hjz
      clear hjz
      go_wp2
      go_loopw [3, 5] (PdRel2 l w) (fun _ i _ => 8 - (intOf i).toNat)
      case atStart =>
        refine ⟨0, by omega, rfl, ?_, hbel⟩
        rw [← hjz'.out, List.take_zero, List.append_nil, hN.out]
        exact hown
      case round =>
        clear hown hlt hlen hbel hsz
        obtain ⟨k, hk, rfl, hown, hbel⟩ := hrel
        have hsz := hbel.size
        have hlt := hown.lt
        have hpz : (padTo l (padZ l)).length ≤ 100000100 := by rw [padTo_length]; omega
        by_cases hk8 : k < 8
        · obtain ⟨P, hP⟩ : ∃ P, Hid ((padTo l (padZ l)).length = P) := ⟨_, rfl⟩
          rw [hP.out] at hown hpz
          obtain ⟨A2, c2, rfl, _, _⟩ := holds_own hown
          go_wp2_with (at_builtin; refine wpList_append_own _ rfl _ _ 22 rfl w.heap.size 5 i0 (.int .u8 0) 1 1 Tryd.underlying22 hi hz0 hz1 hz2 rfl (by decide) _ _ _ rfl (hown.alloc _) ⟨wr.heap.size, 0, none⟩ 1 1 [.int .u8 (8 * (n : Int) / 2 ^ (56 - 8 * k) % 256)] rfl ?f1 ?f2 ?f3 ?f4 ?f5 ?f6 ?_)
          case f1 => rfl
          case f2 => exact fun j u hu => one_cellB hu
          case f3 => exact one_cell1 rfl
          case f4 => unfold maxLen; omega
          case f5 => omega
          case f6 => simp; omega
          intro v3 w3 hown3 hgrow3 _
          have hbel3 := (hbel.alloc hsz (.cells #[Value.int .u8 (8 * (n : Int) / 2 ^ (56 - 8 * k) % 256)] 5)).grown hgrow3 (by simp; omega) (fun j hj => (hlt j hj).1)
          have hown3' : w3.ownsRow w.heap.size 5 1 v3 ((padTo l (padZ l)).length + (k + 1)) (((padTo l (padZ l)) ++ (SM.len8 l).take (k + 1)).map B8) := by
            obtain ⟨b, hb, hbe⟩ := len8_at l hl k hk8
            rw [← HN.out] at hbe
            rw [hP.out, List.take_add_one, hb, List.map_append, List.map_append, List.map_take, ← Nat.add_assoc]
            show w3.ownsRow _ _ _ _ _ (_ ++ (_ ++ [B8 b]))
            rw [hbe]
            exact hown3
          clear hown hlt hown3 hgrow3 hbel
          go_wp2
          go_roundw
          case rel => exact ⟨k + 1, by omega, rfl, hown3', hbel3⟩
          case measure => show 8 - (k + 1) < 8 - k; omega
        · have hke : k = 8 := by omega
          subst hke
          obtain ⟨A2, c2, rfl, _, _⟩ := holds_own hown
          go_wp2
          go_ret
          refine ⟨_, rfl, ?_, hbel⟩
          have e : (SM.pad l).length = (padTo l (padZ l)).length + 8 := by rw [pad_eq, List.length_append]; rfl
          rw [e, pad_eq, ← List.take_of_length_le (i := 8) (l := SM.len8 l) (Nat.le_of_eq (SM.len8_length l))]
          exact hown
    · have ht : ((N : Int) % 64 == 56) = false := by
        have := hNl.out
        rw [beq_eq_false_iff_ne]; unfold padZ at hj hjz; omega
      have ht2 : ((N : Int) % 64 != 56) = true := by rw [bne, ht]; rfl
      have hsc := Lib.hid (padTo_succ l j)
      go_wp2_with (at_builtin; refine wpList_append_own _ rfl _ _ 22 rfl w.heap.size 5 i0 (.int .u8 0) 1 1 Tryd.underlying22 hi hz0 hz1 hz2 rfl (by decide) _ _ _ rfl (hown.alloc _) ⟨wr.heap.size, 0, none⟩ 1 1 [.int .u8 0] rfl ?e1 ?e2 ?e3 ?e4 ?e5 ?e6 ?_)
      case e1 => rfl
      case e2 => exact fun j u hu => one_cellB hu
      case e3 => exact one_cell1 rfl
      case e4 => unfold maxLen; omega
      case e5 => omega
      case e6 => simp; omega
      intro v3 w3 hown3 hgrow3 _
      have hbel3 := (hbel.alloc hsz (.cells #[Value.int .u8 0] 5)).grown hgrow3 (by simp; omega) (fun j hj => (hlt j hj).1)
      have hown3' : w3.ownsRow w.heap.size 5 1 v3 (padTo l (j + 1)).length ((padTo l (j + 1)).map B8) := by
        rw [hsc.out, List.length_append, hN.out, List.map_append]; exact hown3
      have hl3 := own_len hown3
      clear hown hlt hown3 hgrow3 hbel
      go_wp2
      go_roundw
      case rel => exact ⟨j + 1, by omega, hown3', hbel3⟩
      case measure => rw [hl3]; show _ < l.length + 65 - N; have := hNl.out; omega
end Go.Proofs.YtnhnfdfjlagcjaaDoor
