/-
  Contracts of the walks over disk.Image and Flush. Conditions: the record holds the disk.
-/
import Derived.Test.YtbmoedgokimhmaaDf5
namespace Go.Proofs.Ytbmoedgokimhmaa
open Go.RowKit
open Go.Maps (Keyed)

def S8 (l : List UInt8) : Value := .string ⟨l.toArray⟩
def imRow (L : List (List UInt8)) (n j : Nat) : List Value := (L.take j).map S8 ++ List.replicate (n - j) (.string ⟨#[]⟩)
theorem imRow_length (L : List (List UInt8)) (n j : Nat) (hL : L.length = n) (hj : j ≤ n) : (imRow L n j).length = n := by unfold imRow; simp; omega
theorem imRow_all (L : List (List UInt8)) (n : Nat) (hL : L.length = n) : imRow L n n = L.map S8 := by
  unfold imRow
  rw [Nat.sub_self, List.take_of_length_le (by omega)]; simp
theorem imRow_next (L : List (List UInt8)) (n j : Nat) (hL : L.length = n) (hj : j < n) (l : List UInt8) (hl : L[j]? = some l) : splice (imRow L n j) j [S8 l] = imRow L n (j + 1) := by
  unfold imRow splice
  have h1 : ((L.take j).map S8).length = j := by rw [List.length_map, List.length_take]; omega
  rw [List.take_append_of_le_length (by omega), List.take_of_length_le (by omega), List.drop_append, List.drop_eq_nil_of_le (by rw [h1, List.length_singleton]; omega), List.nil_append, h1, List.length_singleton, show j + 1 - j = 1 by omega, List.drop_replicate, List.take_add_one, hl, show n - j - 1 = n - (j + 1) by omega]
  simp
theorem Try.infoS : (Try.prog.info? 9).map (fun i => (i.zero, i.size, i.bytes)) = some (some (.string ⟨#[]⟩), 1, 16) := by kernel_rfl
theorem Try.szS : (Try.prog.info? 9).map (·.size) = some 1 := by kernel_rfl
def ImRel (L : List (List UInt8)) (n gi : Nat) (w1 : World) (i : Value) (wr : World) : Prop :=
  ∃ j : Nat, j ≤ n ∧ i = .int .i64 j ∧ Blk wr gi 9 (imRow L n j) ∧ Below w1.heap.size w1 wr
set_option maxRecDepth 100000 in
set_option maxHeartbeats 1600000 in
theorem image_any (gd gp gm k cp : Nat) (Y : List Value) (M : DM) (w : World) (hM : M.ok) (h : PRep w gd gp gm cp Y M k) :
    Calls Try.prog 29 #[.pointer (some ⟨gd, 0, none⟩)] w fun e w' => ∃ gi, e = .returned (.slice (some ⟨gi, 0, none⟩) M.ps.length M.ps.length) ∧ Blk w' gi 9 (M.image.map S8) ∧ Below w.heap.size w w' ∧ w.heap.size ≤ gi := by
  obtain ⟨i0, hi, hz0, hz1, hz2⟩ := info_parts Try.infoS
  have hn4 : M.ps.length ≤ 4096 := hM.2.2.2
  obtain ⟨n, hn⟩ : ∃ n, M.ps.length = n := ⟨_, rfl⟩
  obtain ⟨L, hL⟩ : ∃ L, M.image = L := ⟨_, rfl⟩
  have hLn : Hid (L.length = n) := by
    have : L.length = n := by rw [← hL, ← hn]; unfold DM.image; rw [List.length_map]
    exact this
  have hL8 : Hid (∀ l ∈ L, l.length = 128) := by rw [← hL]; exact image_128 hM
  have hb : Hid (∀ w', Below w.heap.size w w' → w'.cell? ⟨gd, 0, none⟩ = some (.slice (some ⟨gp, 0, none⟩) n cp) ∧ Blk w' gp 108 (pgCells L ++ Y)) := by
    have : ∀ w', Below w.heap.size w w' → w'.cell? ⟨gd, 0, none⟩ = some (.slice (some ⟨gp, 0, none⟩) n cp) ∧ Blk w' gp 108 (pgCells L ++ Y) := fun w' hw => by
      have h' := h.next hw
      have c0 := h'.d.cell (k := 0) rfl
      rw [hn] at c0
      exact ⟨c0, hL ▸ h'.p⟩
    exact this
  rw [hn, hL]
  rw [hn] at hn4
  have c0 := (hb.out w (Below.refl _ _)).1
  clear hn hL hM h
  go_enter Try.func29, Try.ntmps29
  go_wp2_with (at_make; refine wpList_make_full _ rfl _ _ 43 rfl w.heap.size 9 i0 _ 1 Try.underlying43 hi hz0 hz1 _ _ _ _ n rfl rfl rfl rfl ?b2 ?b3 ?b4 ?_)
  case b2 => rw [hz2]; omega
  case b3 => unfold maxLen; omega
  case b4 => omega
  intro w1 hown1 hg1
  have hB1 : Blk w1 w.heap.size 9 (imRow L n 0) := by
    have hown2 := hown1
    rw [show (madeCells #[Value.string ⟨#[]⟩] n).toList = List.replicate n (Value.string ⟨#[]⟩) from made_rep 1 n _ (by decide)] at hown2
    have e : imRow L n 0 = List.replicate n (Value.string ⟨#[]⟩) := by unfold imRow; simp
    rw [e]
    exact own_blk hown2
  have hbel1 := (Below.refl w.heap.size w).grown hg1 (Nat.le_refl _) (fun k hk => by cases hk)
  obtain ⟨gi, hge⟩ : ∃ gi, Hid (w.heap.size = gi) := ⟨_, rfl⟩
  have hgl : w.heap.size ≤ gi := Nat.le_of_eq hge.out
  rw [hge.out] at hB1 ⊢
  have c0 := (hb.out w1 hbel1).1
  clear hown1 hg1
  go_wp2
  go_loopw [17] (ImRel L n gi w) (fun i _ => n - (intOf i).toNat)
  case atStart => exact ⟨0, Nat.zero_le _, rfl, hB1, hbel1⟩
  case round =>
    clear hB1 hbel1
    obtain ⟨j, hj, rfl, hB, hbel⟩ := hrel
    by_cases hlt : j < n
    · obtain ⟨l, hl⟩ : ∃ l, L[j]? = some l := ⟨_, List.getElem?_eq_getElem (by rw [hLn.out]; exact hlt)⟩
      have hll : Hid (l.length = 128) := hL8.out l (List.mem_of_getElem? hl)
      have hlN : Hid ((l.map B8).length = 128) := by
        have : (l.map B8).length = 128 := by rw [List.length_map]; exact hll.out
        exact this
      have hbk := (hb.out wr hbel).2
      have hrow : wr.rangeAt gp (j * 128) (l.map B8) := fun q u hu => hbk.cell (get_app (pgCells_get L hL8.out j l hl hu))
      have hun := Try.underlying108
      have hz : (Try.prog.info? 108).map (·.size) = some (l.map B8).length := by rw [hlN.out]; exact Try.sizeP
      have hji : (j : Int) < (n : Int) := by omega
      have hnx := Lib.hid (imRow_next L n j hLn.out hlt l hl)
      have hiL := Lib.hid (imRow_length L n j hLn.out (by omega))
      clear hl hbk
      go_wp2_with (first | (with_reducible refine wpList_load_mid (op := ⟨some 21, .load 108 (.tmp 20), _, _, _, _⟩) (by with_unfolding_all rfl) 108 (.tmp 20) (by with_unfolding_all rfl) gp (j * 128) (by with_unfolding_all rfl) (l.map B8) (.array 128 5) hrow hun (by with_unfolding_all rfl) hz ?_) | (with_reducible refine wpList_alloc (o := ⟨some 5, .alloc 108, _, _, _, _⟩) (by with_unfolding_all rfl) 108 (by with_unfolding_all rfl) (.agg (Z128.map B8).toArray) (Z128.map B8) (by exact Try.zeroP) (by with_unfolding_all rfl) ?_))
      intro g5 w2 hg5 hs2 hb2 hB5
      have hle5 : wr.heap.size ≤ g5 := Nat.le_of_eq hg5.out.symm
      go_wp2_with (with_reducible refine wpList_put (o := ⟨none, .store 108 (.tmp 5) (.tmp 21), _, _, _, _⟩) (by with_unfolding_all rfl) 108 (.tmp 5) (.tmp 21) (by with_unfolding_all rfl) g5 0 (by with_unfolding_all rfl) (.agg (l.map B8).toArray) (by with_unfolding_all rfl) hB5 (l.map B8) (by with_unfolding_all rfl) (by rw [hlN.out]; exact Try.sizeP) (by with_unfolding_all (rw [hlN.out, Z128_length]; exact Nat.le_refl _)) (B8_one _) ?_)
      intro w3 hu3 hB53
      rw [splice_all _ _ (by rw [hlN.out, Z128_length])] at hB53
      have hb3 : Below wr.heap.size wr w3 := (hb2.mono hle5).trans (hu3.below (B := wr.heap.size) hle5)
      have hB3 := hB.next hb3 hB.lt
      have hbel3 := below_join hbel hb3
      have hcv := run_conv_at w3 (some ⟨g5, 0, none⟩) 128 128 l hll.out.symm (fun q u hu => ⟨_, rfl, by rw [addr_mid, Nat.zero_add]; exact hB53.cell hu⟩)
      clear hB hbel hb2 hB5 hu3 hb3 hg5 hs2 hrow
      go_wp2_with (first | (with_reducible refine wpList_cutA (o := ⟨some 24, .slice 108 (.tmp 5) none none none, _, _, _, _⟩) (by with_unfolding_all rfl) 108 (.tmp 5) (by with_unfolding_all rfl) g5 0 (by with_unfolding_all rfl) 128 5 Try.underlying108 Try.sz5 (by decide) ?_) | (with_reducible refine wpList_put (o := ⟨none, .store 9 (.tmp 26) (.tmp 25), _, _, _, _⟩) (by with_unfolding_all rfl) 9 (.tmp 26) (.tmp 25) (by with_unfolding_all rfl) gi j (by with_unfolding_all rfl) (S8 l) (by with_unfolding_all rfl) hB3 [S8 l] (by with_unfolding_all rfl) (by with_unfolding_all exact Try.szS) (by with_unfolding_all (rw [hiL.out, List.length_singleton]; omega)) (by with_unfolding_all exact one_cell1 rfl) ?_))
      intro w4 hu4 hB4
      rw [hnx.out] at hB4
      have hbel4 := hbel3.trans (hu4.below (B := w.heap.size) hgl)
      go_wp2
      go_roundw
      case rel => exact ⟨j + 1, by omega, by go_num, hB4, hbel4⟩
      case measure => simp [intOf]; omega
    · obtain rfl : j = n := by omega
      rw [imRow_all L j hLn.out] at hB
      clear hlt hj
      go_wp2
      go_ret
      exact ⟨gi, rfl, hB, hbel, hgl⟩
end Go.Proofs.Ytbmoedgokimhmaa
