/-
  Contracts of the walks over the reference's zeros, Image and Pending. Conditions: the record holds the disk.
-/
import Derived.Test.YtbmoedgokimhmaaRq1
import Derived.Test.YtbmoedgokimhmaaDf8
import Derived.Laws.AppendOwn
namespace Go.Proofs.Ytbmoedgokimhmaa
open Go.RowKit

theorem one_cellV {w : World} {u : Value} {x : Value} {t : TypeId} {j : Nat} (h : [x][j]? = some u) : (w.alloc (.cells #[x] t)).cell? ((⟨w.heap.size, 0, none⟩ : Addr).add j) = some u := by
  match j, h with
  | 0, h => simp at h; subst h; simp [Addr.add]
theorem own_shape {w : World} {base size : Nat} {E : TypeId} {v : Value} {n : Nat} {xs : List Value} (h : w.ownsRow base E size v n xs) : ∃ A cap, v = .slice A n cap := by
  rcases h.2 with ⟨rfl, rfl⟩ | ⟨g, cap, cur, rfl, _⟩
  · exact ⟨none, 0, rfl⟩
  · exact ⟨_, cap, rfl⟩
theorem take_next {α β : Type} (f : α → β) (L : List α) (j : Nat) (x : α) (h : L[j]? = some x) : (L.take j).map f ++ [f x] = (L.take (j + 1)).map f := by
  rw [List.take_add_one, h, List.map_append]; rfl
theorem Try.infoI : (Try.prog.info? 3).map (fun i => (i.zero, i.size, i.bytes)) = some (some (.int .i64 0), 1, 8) := by kernel_rfl
def natOf : Value → Nat
  | .int _ q => q.toNat
  | _ => 0
def RImRel (L : List (List UInt8)) (n : Nat) (w1 : World) (v i : Value) (wr : World) : Prop :=
  ∃ j : Nat, j ≤ n ∧ i = .int .i64 j ∧ wr.ownsRow w1.heap.size 9 1 v j ((L.take j).map S8) ∧ Below w1.heap.size w1 wr
set_option maxRecDepth 100000 in
set_option maxHeartbeats 1600000 in
theorem rimage_any (gr ga cap : Nat) (X : List Value) (M : DM) (w : World) (hn4 : M.ps.length ≤ 4096) (h : RRep w gr ga cap X M) :
    Calls Try.prog 65 #[.pointer (some ⟨gr, 0, none⟩)] w fun e w' => ∃ v, e = .returned v ∧ w'.ownsRow w.heap.size 9 1 v M.ps.length (M.image.map S8) ∧ Below w.heap.size w w' := by
  obtain ⟨i0, hi, hz0, hz1, hz2⟩ := info_parts Try.infoS
  obtain ⟨n, hn⟩ : ∃ n, M.ps.length = n := ⟨_, rfl⟩
  obtain ⟨L, hL⟩ : ∃ L, M.image = L := ⟨_, rfl⟩
  have hLn : Hid (L.length = n) := by
    have : L.length = n := by rw [← hL, ← hn]; unfold DM.image; rw [List.length_map]
    exact this
  have hb : Hid (∀ w', Below w.heap.size w w' → w'.cell? ⟨gr, 0, none⟩ = some (.slice (some ⟨ga, 0, none⟩) n cap) ∧ ∀ j l, L[j]? = some l → w'.cell? ⟨ga, j * 3, none⟩ = some (S8 l)) := by
    have : ∀ w', Below w.heap.size w w' → w'.cell? ⟨gr, 0, none⟩ = some (.slice (some ⟨ga, 0, none⟩) n cap) ∧ ∀ j l, L[j]? = some l → w'.cell? ⟨ga, j * 3, none⟩ = some (S8 l) := fun w' hw => by
      have h' := h.next hw
      have c0 := h'.d.cell (k := 0) rfl
      rw [hn] at c0
      refine ⟨c0, fun j l hl => ?_⟩
      have hj : j < M.ps.length := by rw [hn, ← hLn.out]; exact (List.getElem?_eq_some_iff.1 hl).1
      have := h'.q0 hj
      rw [← hL, image_at hj] at hl
      injection hl with hl
      rw [← hl]; exact this
    exact this
  rw [hn, hL]
  rw [hn] at hn4
  clear hn hL h
  go_enter Try.func65, Try.ntmps65
  go_wp2
  go_loopw [3, 4] (RImRel L n w) (fun _ i _ => n - natOf i)
  case atStart => exact ⟨0, Nat.zero_le _, rfl, World.ownsRow_nil _ _ _ _, Below.refl _ _⟩
  case round =>
    obtain ⟨j, hj, rfl, hown, hbel⟩ := hrel
    obtain ⟨A, c, rfl⟩ := own_shape hown
    have c0 := (hb.out wr hbel).1
    have hsz := hbel.size
    have hlt := hown.lt
    by_cases hjn : j < n
    · obtain ⟨l, hl⟩ : ∃ l, L[j]? = some l := ⟨_, List.getElem?_eq_getElem (by rw [hLn.out]; exact hjn)⟩
      have q0 : wr.cell? ⟨ga, j * 3, none⟩ = some (.string ⟨l.toArray⟩) := (hb.out wr hbel).2 j l hl
      have hji : (j : Int) < (n : Int) := by omega
      have hnx : Hid ((L.take j).map S8 ++ [Value.string ⟨l.toArray⟩] = (L.take (j + 1)).map S8) := take_next S8 L j l hl
      obtain ⟨XS, hXS⟩ : ∃ XS, Hid ((L.take j).map S8 = XS) := ⟨_, rfl⟩
      rw [hXS.out] at hown hnx
      clear hl hj hXS
      go_wp2_with (at_builtin; refine wpList_append_own _ rfl _ _ 43 rfl w.heap.size 9 i0 _ 1 16 Try.underlying43 hi hz0 hz1 hz2 rfl (by decide) _ _ _ rfl (hown.alloc _) ⟨wr.heap.size, 0, none⟩ 1 1 [.string ⟨l.toArray⟩] rfl (by with_unfolding_all rfl) (fun j u hu => one_cellV hu) (one_cell1 rfl) (by unfold maxLen; omega) (by omega) (by with_unfolding_all (simp; omega)) ?_)
      intro v3 w3 hown3 hgrow3 _
      have hbel3 := (hbel.alloc hsz (.cells #[.string ⟨l.toArray⟩] 9)).grown hgrow3 (by simp; omega) (fun j hj => (hlt j hj).1)
      rw [hnx.out] at hown3
      clear hown hlt hgrow3 hbel c0 q0
      go_wp2
      go_roundw
      case rel => exact ⟨j + 1, by omega, rfl, hown3, hbel3⟩
      case measure => simp [natOf]; omega
    · obtain rfl : j = n := by omega
      clear hjn hj
      go_wp2
      go_ret
      refine ⟨_, rfl, ?_, hbel⟩
      rw [List.take_of_length_le (Nat.le_of_eq hLn.out)] at hown
      exact hown
theorem pendZ_length (M : DM) : (pendZ M).length = M.pending.length := by unfold pendZ; rw [List.length_map]
def pendTo (M : DM) (j : Nat) : List Int := ((List.range j).filter fun i => (M.page i).pend).map Int.ofNat
theorem pendTo_all (M : DM) : pendTo M M.ps.length = pendZ M := rfl
theorem pendTo_yes (M : DM) (j : Nat) (h : (M.page j).pend = true) : pendTo M (j + 1) = pendTo M j ++ [(j : Int)] := by
  unfold pendTo
  rw [List.range_succ, List.filter_append, List.map_append, List.filter_cons_of_pos (by simpa using h)]
  rfl
theorem pendTo_no (M : DM) (j : Nat) (h : (M.page j).pend = false) : pendTo M (j + 1) = pendTo M j := by
  unfold pendTo
  rw [List.range_succ, List.filter_append, List.filter_cons_of_neg (by simp [h]), List.filter_nil, List.append_nil]
theorem pendTo_le (M : DM) (j : Nat) : (pendTo M j).length ≤ j := by
  unfold pendTo
  rw [List.length_map]
  exact Nat.le_trans (List.length_filter_le _ _) (Nat.le_of_eq List.length_range)
def Z8 (x : Int) : Value := .int .i64 x
def RPeRel (M : DM) (n : Nat) (w1 : World) (v i : Value) (wr : World) : Prop :=
  ∃ j : Nat, j ≤ n ∧ i = .int .i64 j ∧ wr.ownsRow w1.heap.size 3 1 v (pendTo M j).length ((pendTo M j).map Z8) ∧ Below w1.heap.size w1 wr
set_option maxRecDepth 100000 in
set_option maxHeartbeats 1600000 in
theorem rpending_any (gr ga cap : Nat) (X : List Value) (M : DM) (w : World) (hn4 : M.ps.length ≤ 4096) (h : RRep w gr ga cap X M) :
    Calls Try.prog 66 #[.pointer (some ⟨gr, 0, none⟩)] w fun e w' => ∃ v, e = .returned v ∧ w'.ownsRow w.heap.size 3 1 v (pendZ M).length ((pendZ M).map Z8) ∧ Below w.heap.size w w' := by
  obtain ⟨i0, hi, hz0, hz1, hz2⟩ := info_parts Try.infoI
  obtain ⟨n, hn⟩ : ∃ n, M.ps.length = n := ⟨_, rfl⟩
  have hall : Hid (pendTo M n = pendZ M) := by
    have : pendTo M n = pendZ M := by rw [← hn]; rfl
    exact this
  have hb : Hid (∀ w', Below w.heap.size w w' → w'.cell? ⟨gr, 0, none⟩ = some (.slice (some ⟨ga, 0, none⟩) n cap) ∧ ∀ j, j < n → w'.cell? ⟨ga, j * 3 + 2, none⟩ = some (.bool (M.page j).pend)) := by
    have : ∀ w', Below w.heap.size w w' → w'.cell? ⟨gr, 0, none⟩ = some (.slice (some ⟨ga, 0, none⟩) n cap) ∧ ∀ j, j < n → w'.cell? ⟨ga, j * 3 + 2, none⟩ = some (.bool (M.page j).pend) := fun w' hw => by
      have h' := h.next hw
      have c0 := h'.d.cell (k := 0) rfl
      rw [hn] at c0
      exact ⟨c0, fun j hj => h'.q2 (by rw [hn]; exact hj)⟩
    exact this
  rw [← hall.out]
  rw [hn] at hn4
  clear hn h
  go_enter Try.func66, Try.ntmps66
  go_wp2
  go_loopw [3, 4] (RPeRel M n w) (fun _ i _ => n - natOf i)
  case atStart => exact ⟨0, Nat.zero_le _, rfl, World.ownsRow_nil _ _ _ _, Below.refl _ _⟩
  case round =>
    obtain ⟨j, hj, rfl, hown, hbel⟩ := hrel
    have c0 := (hb.out wr hbel).1
    have hsz := hbel.size
    have hlt := hown.lt
    have hpl := pendTo_le M j
    by_cases hjn : j < n
    · have q2 := (hb.out wr hbel).2 j hjn
      have hji : (j : Int) < (n : Int) := by omega
      obtain ⟨b, hpb⟩ : ∃ b, (M.page j).pend = b := ⟨_, rfl⟩
      rw [hpb] at q2
      have HJ := Lib.hid hj
      cases b with
      | false =>
        have hnx := Lib.hid (pendTo_no M j hpb)
        clear hpb hj
        go_wp2
        go_roundw
        case rel => exact ⟨j + 1, by omega, rfl, by rw [hnx.out]; exact hown, hbel⟩
        case measure => simp [natOf]; omega
      | true =>
        have hnx := pendTo_yes M j hpb
        have hnx1 : Hid ((pendTo M j).map Z8 ++ [Value.int .i64 (j : Int)] = (pendTo M (j + 1)).map Z8) := by
          have : (pendTo M j).map Z8 ++ [Value.int .i64 (j : Int)] = (pendTo M (j + 1)).map Z8 := by rw [hnx, List.map_append]; rfl
          exact this
        have hnx2 : Hid ((pendTo M j).length + 1 = (pendTo M (j + 1)).length) := by
          have : (pendTo M j).length + 1 = (pendTo M (j + 1)).length := by rw [hnx, List.length_append]; rfl
          exact this
        obtain ⟨N, hN⟩ : ∃ N, Hid ((pendTo M j).length = N) := ⟨_, rfl⟩
        rw [hN.out] at hown hpl hnx2
        obtain ⟨A, c, rfl⟩ := own_shape hown
        obtain ⟨XS, hXS⟩ : ∃ XS, Hid ((pendTo M j).map Z8 = XS) := ⟨_, rfl⟩
        rw [hXS.out] at hown hnx1
        clear hpb hj hnx hXS
        go_wp2_with (at_builtin; refine wpList_append_own _ rfl _ _ 32 rfl w.heap.size 3 i0 _ 1 8 Try.underlying32 hi hz0 hz1 hz2 rfl (by decide) _ _ _ rfl (hown.alloc _) ⟨wr.heap.size, 0, none⟩ 1 1 [.int .i64 (j : Int)] rfl (by with_unfolding_all rfl) (fun j u hu => one_cellV hu) (one_cell1 rfl) (by unfold maxLen; omega) (by omega) (by with_unfolding_all (simp; omega)) ?_)
        intro v3 w3 hown3 hgrow3 _
        have hbel3 := (hbel.alloc hsz (.cells #[.int .i64 (j : Int)] 3)).grown hgrow3 (by simp; omega) (fun j hj => (hlt j hj).1)
        rw [hnx1.out, hnx2.out] at hown3
        clear hown hlt hgrow3 hbel c0 q2
        go_wp2
        go_roundw
        case rel => exact ⟨j + 1, by omega, rfl, hown3, hbel3⟩
        case measure => simp [natOf]; omega
    · obtain rfl : j = n := by omega
      clear hjn hj
      go_wp2
      go_ret
      exact ⟨_, rfl, hown, hbel⟩
end Go.Proofs.Ytbmoedgokimhmaa
