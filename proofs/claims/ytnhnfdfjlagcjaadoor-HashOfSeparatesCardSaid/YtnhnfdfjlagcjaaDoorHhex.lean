/-
  Contracts of the walks over the statements' own hex. Conditions: at most 10^8 bytes.
-/
import Derived.Test.YtnhnfdfjlagcjaaDoorHtext
import Derived.Test.YtnhnfdfjlagcjaaDoorHeq
import Derived.Deep.RegionLaw
namespace Go.Proofs.YtnhnfdfjlagcjaaDoor
open Go.RowKit

def digs : List UInt8 := [48, 49, 50, 51, 52, 53, 54, 55, 56, 57, 97, 98, 99, 100, 101, 102]
def hexTo (l : List UInt8) (k : Nat) : List UInt8 := (l.take k).flatMap fun c => [digs.getD (c.toNat / 16) 0, digs.getD (c.toNat % 16) 0]
def hexL (l : List UInt8) : List UInt8 := l.flatMap fun c => [digs.getD (c.toNat / 16) 0, digs.getD (c.toNat % 16) 0]
theorem hexTo_length (l : List UInt8) (k : Nat) (h : k ≤ l.length) : (hexTo l k).length = 2 * k := by
  induction k with
  | zero => rfl
  | succ n ih =>
    have : hexTo l (n + 1) = hexTo l n ++ [digs.getD ((l[n]'(by omega)).toNat / 16) 0, digs.getD ((l[n]'(by omega)).toNat % 16) 0] := by
      unfold hexTo
      rw [List.take_succ_eq_append_getElem (by omega), List.flatMap_append]
      simp only [List.flatMap_cons, List.flatMap_nil, List.append_nil]
    rw [this, List.length_append, ih (by omega)]
    simp; omega
theorem hexTo_snoc (l : List UInt8) (k : Nat) (h : k < l.length) : (hexTo l (k + 1)).map B8 = (hexTo l k).map B8 ++ [B8 (digs.getD (l[k].toNat / 16) 0), B8 (digs.getD (l[k].toNat % 16) 0)] := by
  unfold hexTo
  rw [List.take_succ_eq_append_getElem h, List.flatMap_append, List.map_append]
  simp only [List.flatMap_cons, List.flatMap_nil, List.append_nil, List.map_cons, List.map_nil]
theorem step_append_own {P : Program} {ops : Array Oper} {o : Oper} {a : Act} {w : World} {K : Act → World → Prop} {Q : Exit → Act → World → Prop} {E : Prop}
    (hg : o.guard = none) (s x : Operand) (t : TypeId) (ho : o.op = .call { callee := .builtin .append, args := #[s, x], argTypes := #[t, t] })
    (base : Nat) (e : TypeId) (i : TypeInfo) (z : Value) (size bytes : Nat) (ht : P.underlying t = some (.slice e)) (hi : P.info? e = some i) (hz : i.zero = some z)
    (hsize : i.size = size) (hby : i.bytes = bytes) (hzs : z.cells.size = size) (hsz : 0 < size)
    (v : Value) (n : Nat) (xs : List Value) (hs : a.eval s = v) (hown : w.ownsRow base e size v n xs)
    (ad : Addr) (m c : Nat) (news : List Value) (hx : a.eval x = .slice (some ad) m c) (hl : news.length = m * size) (hnews : ∀ j u, news[j]? = some u → w.cell? (ad.add j) = some u) (h1 : ∀ u ∈ news, u.oneCell' = true)
    (h63 : n + m ≤ maxLen) (hbytes : (n + m) * bytes ≤ 140737488355328) (hbase : base ≤ w.heap.size)
    (h : ∀ v' w', w'.ownsRow base e size v' (n + m) (xs ++ news) → w.grownBy w' v.ownBlock → (v' = .slice none 0 0 ↔ v = .slice none 0 0 ∧ m = 0) → K (a.put o.dst v') w') :
    if Region.wanted o (yielded ops a.tmps) = true then Oper.wp P o a w K Q else E := by
  have hw : Region.wanted o (yielded ops a.tmps) = true := by simp [Region.wanted, hg]
  rw [if_pos hw]
  exact wp_append_own w s x t ho base e i z size bytes ht hi hz hsize hby hzs hsz v n xs hs hown ad m c news hx hl hnews h1 h63 hbytes hbase h
theorem dig_at (n : Nat) (h : n < 16) (h' : n < ({ data := #[48, 49, 50, 51, 52, 53, 54, 55, 56, 57, 97, 98, 99, 100, 101, 102] } : ByteArray).size) : (({ data := #[48, 49, 50, 51, 52, 53, 54, 55, 56, 57, 97, 98, 99, 100, 101, 102] } : ByteArray)[n]'h') = digs.getD n 0 := by
  have : ∀ m : Fin 16, (({ data := #[48, 49, 50, 51, 52, 53, 54, 55, 56, 57, 97, 98, 99, 100, 101, 102] } : ByteArray)[m.1]'m.2) = digs.getD m.1 0 := by decide
  exact this ⟨n, h⟩
theorem two_cells {w : World} {x y u : Value} {t : TypeId} {j : Nat} (h : [x, y][j]? = some u) : (w.alloc (.cells #[x, y] t)).cell? ((⟨w.heap.size, 0, none⟩ : Addr).add j) = some u := by
  have hb := blk_new w t [x, y]
  rw [addr_mid, Nat.zero_add]
  exact hb.cell h
def HxRel (l : List UInt8) (w : World) (v i : Value) (wr : World) : Prop :=
  ∃ k : Nat, k ≤ l.length ∧ i = .int .i64 k ∧ wr.ownsRow w.heap.size 5 1 v (2 * k) ((hexTo l k).map B8) ∧ Below w.heap.size w wr

set_option maxRecDepth 100000 in
set_option maxHeartbeats 800000 in
theorem hex_any (s : ByteArray) (w : World) (hs : s.size ≤ 100000000) :
    Calls Tryd.prog 45 #[.string s] w fun e w' => e = .returned (.string ⟨(hexL s.data.toList).toArray⟩) ∧ Below w.heap.size w w' := by
  obtain ⟨i0, hi, hz0, hz1, hz2⟩ := info_parts Tryd.info8
  have hlen : Hid (s.data.toList.length = s.size) := bytes_size s
  go_enter Tryd.func45, Tryd.ntmps45
  go_wp2
  go_loopw [4, 5] (HxRel s.data.toList w) (fun _ i _ => s.size - (intOf i).toNat)
  case atStart => exact ⟨0, Nat.zero_le _, rfl, World.ownsRow_nil _ _ _ _, Below.refl _ _⟩
  case round =>
    obtain ⟨k, hk, rfl, hown, hbel⟩ := hrel
    have hk1 : k ≤ s.size := by rw [hlen.out] at hk; exact hk
    by_cases hlt : k < s.size
    · have hsn := Lib.hid (hexTo_snoc s.data.toList k (by rw [hlen.out]; exact hlt))
      have hgk : s.data.toList[k]'(by rw [hlen.out]; exact hlt) = s[k] := rfl
      rw [hgk] at hsn
      clear hgk
      have hc : s[k].toNat < 256 := UInt8.toNat_lt _
      obtain ⟨n1, hn1⟩ : ∃ n1 : Nat, Hid (s[k].toNat / 16 = n1) := ⟨s[k].toNat / 16, rfl⟩
      obtain ⟨n2, hn2⟩ : ∃ n2 : Nat, Hid (s[k].toNat % 16 = n2) := ⟨s[k].toNat % 16, rfl⟩
      rw [hn1.out, hn2.out] at hsn
      have e1 : IntKind.u8.wrap ((s[k].toNat : Int) / 16) = (n1 : Int) := by rw [IntKind.wrap_u8]; have := hn1.out; omega
      have e2 : (s[k].toNat : Int) % 16 = (n2 : Int) := by have := hn2.out; omega
      have e3 : (s[k].toNat : Int).tmod 16 = (n2 : Int) := by rw [Int.tmod_eq_emod_of_nonneg (by omega)]; exact e2
      have l1 : (n1 : Int) < 16 := by have := hn1.out; omega
      have l2 : (n2 : Int) < 16 := by have := hn2.out; omega
      have l1' : n1 < 16 := by omega
      have l2' : n2 < 16 := by omega
      have hsz := hbel.size
      have hlt2 := hown.lt
      have hml : 2 * k + 2 ≤ maxLen := by unfold maxLen; omega
      have hmb : (2 * k + 2) * 1 ≤ 140737488355328 := by omega
      have hown' : ∀ o, (wr.drew.alloc o).ownsRow w.heap.size 5 1 _ (2 * k) ((hexTo s.data.toList k).map B8) := fun o => World.ownsRow.alloc (w := wr.drew) hown o
      have hbs : ∀ o, w.heap.size ≤ (wr.drew.alloc o).heap.size := fun o => Nat.le_trans hsz (below_new wr.drew o).size
      have HD1 := Lib.hid (dig_at n1 l1')
      have HD2 := Lib.hid (dig_at n2 l2')
      have HX := Lib.hid hown'
      have HX2 := Lib.hid hbs
      have HX3 := Lib.hid hml
      have HX4 := Lib.hid hmb
      clear hown' hbs hml hmb
      go_wp2
      go_region_law (refine step_append_own rfl (.tmp 12) (.tmp 25) 22 rfl w.heap.size 5 i0 (.int .u8 0) 1 1 Tryd.underlying22 hi hz0 hz1 hz2 rfl (by decide) _ (2 * k) _ rfl (HX.out _) ⟨wr.drew.heap.size, 0, none⟩ 2 2 [_, _] rfl rfl (fun j u hu => two_cells (w := wr.drew) hu) (by intro u hu; simp at hu; rcases hu with rfl | rfl <;> rfl) HX3.out HX4.out (HX2.out _) ?_; intro v3 w3 hown3 hgrow _)
      all_goals
        have hbel3 := ((hbel.drew).alloc (o := .cells #[_, _] 5) hsz).grown hgrow (HX2.out _) (fun j hj => (hlt2 j hj).1)
        replace hown3 : w3.ownsRow w.heap.size 5 1 v3 (2 * (k + 1)) ((hexTo s.data.toList (k + 1)).map B8) := by
          rw [hsn.out, ← HD1.out (by show n1 < 16; exact l1'), ← HD2.out (by show n2 < 16; exact l2')]; exact hown3
        clear hown hbel hgrow hlt2 e1 e2 e3
        go_wp2
        go_roundw
        case rel => exact ⟨k + 1, by rw [hlen.out]; omega, by go_num, hown3, hbel3⟩
        case measure => simp [intOf]; omega
    · have hke : k = s.size := by omega
      have hta : hexTo s.data.toList k = hexL s.data.toList := by unfold hexTo hexL; rw [List.take_of_length_le (by rw [hlen.out]; omega)]
      have hL2 : (hexL s.data.toList).length = 2 * k := by rw [← hta]; exact hexTo_length _ _ (by rw [hlen.out]; omega)
      rw [hta] at hown
      have hLb : Hid ((hexL s.data.toList).length = 2 * k) := hL2
      obtain ⟨A, c2, rfl, _, hh⟩ := holds_own hown
      have hcv := run_conv_later wr A c2 (2 * k) (hexL s.data.toList) hL2.symm hh wr (Below.refl _ _)
      clear hown hh hta hke hL2
      go_wp2
      go_ret
      exact ⟨rfl, hbel⟩
end Go.Proofs.YtnhnfdfjlagcjaaDoor
