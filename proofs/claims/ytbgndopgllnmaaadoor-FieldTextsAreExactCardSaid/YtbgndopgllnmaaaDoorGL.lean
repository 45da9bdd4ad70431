/-
  Contracts of the functions that the statement calls, part 12 of 25 (merged texts: Fk). Conditions: as the head of each part says.
-/
import Derived.Test.YtbgndopgllnmaaaDoorGJ
import Derived.Test.YtbgndopgllnmaaaDoorGK
import Derived.Shelf.Strings.BuilderK

/-
  Contracts of the walks over write, group and Text. Conditions: not more than a million bytes; words of a head.
-/
namespace Go.Proofs.YtbgndopgllnmaaaDoor
set_option linter.unusedVariables false
set_option linter.unusedSimpArgs false
open Go.RowKit Go.Shelf

/-- A builder that holds these bytes, and all whose memory lies from gb on. -/
def Bld (w : World) (gb : Nat) (l : List UInt8) : Prop := Lib.IsBuilderF 74 5 gb gb (l.map B8) w ∧ gb < w.heap.size
theorem ownF_next {w w' : World} {B : Nat} {e : TypeId} {s n : Nat} {v : Value} {xs : List Value} (h : w.ownsRowF B e s v n xs) (hb : Below w.heap.size w w') : w'.ownsRowF B e s v n xs := by
  refine ⟨h.1, ?_⟩
  rcases h.2 with hn | ⟨g, cap, cur, fz, hv, hB, hg, rest⟩
  · exact .inl hn
  · refine .inr ⟨g, cap, cur, fz, hv, hB, ?_, rest⟩
    rw [hb.block g (by rcases Nat.lt_or_ge g w.heap.size with h | h; · exact h
                       · rw [Array.getElem?_eq_none h] at hg; cases hg)]
    exact hg
theorem Bld.next {w w' : World} {gb : Nat} {l : List UInt8} (h : Bld w gb l) (hb : Below w.heap.size w w') : Bld w' gb l := by
  refine ⟨?_, Nat.lt_of_lt_of_le h.2 hb.size⟩
  rcases h.1 with ⟨h1, v, hk, hown, hne⟩ | ⟨h1, v, hk, hown, hne⟩
  · exact .inl ⟨h1, v, (hb.block gb h.2).trans hk, ownF_next hown hb, hne⟩
  · exact .inr ⟨h1, v, (hb.block gb h.2).trans hk, ownF_next hown hb, hne⟩
theorem Tryd.zeroBd : (Tryd.prog.info? 74).map (·.zero) = some (some (.agg #[.pointer none, .slice none 0 0])) := by kernel_rfl
theorem IsBuilderF_of_new {w : World} {gb : Nat} (h : Blk w gb 74 [.pointer none, .slice none 0 0]) : Lib.IsBuilderF 74 5 gb gb (([] : List UInt8).map B8) w :=
  .inl ⟨Nat.le_refl _, .slice none 0 0, h, ⟨rfl, .inl ⟨rfl, rfl⟩⟩, by intro h; cases h⟩
theorem Bld.new {w : World} {gb : Nat} (h : Blk w gb 74 [.pointer none, .slice none 0 0]) : Bld w gb [] :=
  ⟨IsBuilderF_of_new h, h.lt⟩
theorem arr_len (l : List UInt8) : (⟨l.toArray⟩ : ByteArray).size = l.length := by simp [ByteArray.size]
theorem arr_lst (l : List UInt8) : (⟨l.toArray⟩ : ByteArray).data.toList = l := by simp
theorem writeS_any (gb : Nat) (l : List UInt8) (s : ByteArray) (w : World) (h : Bld w gb l) (hl : l.length + s.size ≤ 1000000) :
    Calls Tryd.prog 65 #[.pointer (some ⟨gb, 0, none⟩), .string s] w fun e w' => e = .returned (.tuple #[.int .i64 s.size, .nilIface]) ∧ Bld w' gb (l ++ s.data.toList) ∧ Below gb w w' ∧ Lib.OthersKept 5 (some gb) w w' := by
  refine (Any.Builder_WriteString_k Tryd.bwriteA Tryd.bwriteX gb gb (l.map B8) s w h.1 (by rw [List.length_map]; omega) (Nat.le_of_lt h.2)).mono ?_
  rintro e w' ⟨he, h1, h2, h3⟩
  refine ⟨he, ⟨.inr ?_, Nat.lt_of_lt_of_le h.2 h2.size⟩, h2, h3⟩
  rw [List.map_append]
  exact h1
theorem readS_any (gb : Nat) (l : List UInt8) (w : World) (h : Bld w gb l) :
    Calls Tryd.prog 57 #[.pointer (some ⟨gb, 0, none⟩)] w fun e w' => e = .returned (.string ⟨l.toArray⟩) ∧ Below gb w w' := by
  refine (Any.Builder_String_any_k Tryd.bstringA Tryd.bstringX gb gb l w h.1 (Nat.le_of_lt h.2)).mono ?_
  rintro e w' ⟨he, _, h2, _⟩
  exact ⟨he, h2⟩
/-- The bytes of strings, one behind the other. -/
def joinB (ps : List ByteArray) : List UInt8 := ps.flatMap fun s => s.data.toList
theorem joinB_take {ps : List ByteArray} {k : Nat} {s : ByteArray} (h : ps[k]? = some s) : joinB (ps.take (k + 1)) = joinB (ps.take k) ++ s.data.toList := by
  unfold joinB
  rw [List.take_add_one, h, List.flatMap_append]
  simp
theorem joinB_le (ps : List ByteArray) (k : Nat) : (joinB (ps.take k)).length ≤ (joinB ps).length := by
  have : joinB ps = joinB (ps.take k) ++ joinB (ps.drop k) := by
    unfold joinB
    rw [← List.flatMap_append, List.take_append_drop]
  rw [this, List.length_append]; omega
def WrRel (l : List UInt8) (ps : List ByteArray) (gb g : Nat) (w : World) (i : Value) (wr : World) : Prop :=
  ∃ k : Nat, k ≤ ps.length ∧ i = .int .i64 (k : Int) ∧ Bld wr gb (l ++ joinB (ps.take k)) ∧ Blk wr g 9 (ps.map Value.string) ∧ Below gb w wr ∧ Lib.OthersKept 5 (some gb) w wr
set_option maxRecDepth 100000 in
set_option maxHeartbeats 1600000 in
theorem write_any (gb g c : Nat) (l : List UInt8) (ps : List ByteArray) (n : Nat) (w : World) (hn : ps.length = n) (hn9 : n ≤ 100) (h : Bld w gb l) (hb : Blk w g 9 (ps.map Value.string)) (hne : gb ≠ g) (hl : l.length + (joinB ps).length ≤ 1000000) :
    Calls Tryd.prog 55 #[.pointer (some ⟨gb, 0, none⟩), .slice (some ⟨g, 0, none⟩) n c] w fun e w' => e = .returned (.tuple #[]) ∧ Bld w' gb (l ++ joinB ps) ∧ Below gb w w' ∧ Lib.OthersKept 5 (some gb) w w' := by
  have H0 : Hid (WrRel l ps gb g w (.int .i64 0) w) := (⟨0, Nat.zero_le _, rfl, by simpa [joinB] using h, hb, Below.refl _ _, Lib.OthersKept.refl _ _ _⟩ : WrRel l ps gb g w (.int .i64 0) w)
  have HN := Lib.hid hn
  clear h hb hn
  go_enter Tryd.func55, Tryd.ntmps55
  go_wp2
  go_loopw [8] (WrRel l ps gb g w) (fun i _ => n - (intOf i).toNat)
  case atStart => exact H0.out
  case round =>
    clear H0
    obtain ⟨k, hk, rfl, hB, hP, hbe, hok⟩ := hrel
    rw [HN.out] at hk
    by_cases hlt : k < n
    · have hki : (k : Int) < (n : Int) := by omega
      have hk0 : (0 : Int) ≤ (k : Int) := by omega
      obtain ⟨s, hs⟩ : ∃ s, ps[k]? = some s := ⟨_, List.getElem?_eq_getElem (by rw [HN.out]; exact hlt)⟩
      have hc : wr.cell? ⟨g, k, none⟩ = some (.string s) := hP.cell (by rw [List.getElem?_map, hs]; rfl)
      have hj := joinB_take hs
      have hjl := joinB_le ps (k + 1)
      rw [hj, List.length_append, bytes_size] at hjl
      have HW := Lib.hid (writeS_any gb _ s wr hB (by rw [List.length_append]; omega))
      have HJ := Lib.hid hj
      clear hj hjl hs hB
      go_wp2_with fail
      (with_reducible refine HW.out.mono ?_)
      rintro e w1 ⟨rfl, hB1, hb1, ho1⟩
      have hP1 : Blk w1 g 9 (ps.map Value.string) := ho1 g _ hP (by intro e; injection e with e; exact hne e.symm) (by
        intro c fz e
        injection e with _ e _
        exact absurd e (by decide))
      have hb2 := hbe.trans hb1
      have ho2 := hok.trans ho1
      have HB2 : Hid (Bld w1 gb (l ++ joinB (ps.take (k + 1)))) := by
        have : Bld w1 gb (l ++ joinB (ps.take (k + 1))) := by rw [HJ.out, ← List.append_assoc]; exact hB1
        exact this
      clear hB1 ho1 hb1 HW
      go_wp2
      go_roundw
      case rel => exact ⟨k + 1, by rw [HN.out]; omega, by go_num, HB2.out, hP1, hb2, ho2⟩
      case measure => simp [intOf]; omega
    · obtain rfl : k = n := by omega
      have HB2 : Hid (Bld wr gb (l ++ joinB ps)) := by
        have : Bld wr gb (l ++ joinB ps) := by
          rw [List.take_of_length_le (by rw [HN.out]; exact Nat.le_refl _)] at hB
          exact hB
        exact this
      clear hB
      go_wp2
      go_end0
      exact ⟨rfl, HB2.out, hbe, hok⟩
def hexD (x k : Nat) : List UInt8 := List.replicate (4 - k) 0 ++ (hexL x).drop (4 - k)
def GrpRel (X g : Nat) (w : World) (xv i : Value) (wr : World) : Prop := ∃ k : Nat, k ≤ 4 ∧ i = .int .i64 (3 - (k : Int)) ∧ xv = .int .i64 ((X / 16 ^ k : Nat) : Int) ∧ Blk wr g 95 ((hexD X k).map B8) ∧ Below w.heap.size w wr
theorem hex_div (X k : Nat) : X / 16 ^ k / 16 = X / 16 ^ (k + 1) := by rw [Nat.div_div_eq_div_mul, ← Nat.pow_succ]
set_option maxRecDepth 100000 in
set_option maxHeartbeats 1600000 in
theorem group_any (X : Nat) (w : World) (hx : X < 65536) :
    Calls Tryd.prog 63 #[.int .i64 (X : Int)] w fun e w' => e = .returned (.string ⟨(hexL X).toArray⟩) ∧ Below w.heap.size w w' := by
  go_enter Tryd.func63, Tryd.ntmps63
  go_wp2_with (with_reducible refine wpList_alloc (o := ⟨some 3, .alloc 95, _, _, _, _⟩) (by with_unfolding_all rfl) 95 (by with_unfolding_all rfl) (.agg ([0, 0, 0, 0].map B8).toArray) ([0, 0, 0, 0].map B8) (by exact Tryd.zero4) (by with_unfolding_all rfl) ?_)
  intro g w1 hg hs1 hb1 hB1
  have hgl : w.heap.size ≤ g := Nat.le_of_eq hg.out.symm
  have hb1' : Below w.heap.size w w1 := hb1.mono hgl
  clear hb1 hs1 hg
  have H0 : Hid (GrpRel X g w (.int .i64 (X : Int)) (.int .i64 3) w1) := (⟨0, by omega, rfl, by rw [Nat.pow_zero, Nat.div_one], hB1, hb1'⟩ : GrpRel X g w (.int .i64 (X : Int)) (.int .i64 3) w1)
  clear hB1 hb1'
  go_wp2
  go_loopw [0, 4] (GrpRel X g w) (fun _ i _ => (intOf i + 1).toNat)
  case atStart => exact H0.out
  case round =>
    clear H0
    obtain ⟨k, hk, rfl, rfl, hB, hbel⟩ := hrel
    by_cases hlt : k < 4
    · obtain ⟨y, hy⟩ : ∃ y : Nat, X / 16 ^ k = y := ⟨_, rfl⟩
      have hyl : y < 65536 := by rw [← hy]; exact Nat.lt_of_le_of_lt (Nat.div_le_self _ _) hx
      have hy2 := hex_div X k
      rw [hy] at hy2 ⊢
      obtain ⟨z, hz⟩ : ∃ z : Nat, y / 16 = z := ⟨_, rfl⟩
      rw [hz] at hy2
      have hyi : (y : Int) / 16 = (z : Int) := by omega
      have hzl : z < 65536 := by omega
      have hwz : IntKind.i64.wrap (z : Int) = (z : Int) := by simp only [IntKind.wrap_i64]; omega
      have han := and15 y hyl
      have hnl : y % 16 < 16 := Nat.mod_lt _ (by decide)
      have hbk : splice ((hexD X k).map B8) (3 - k) [B8 (digB (y % 16) hnl)] = (hexD X (k + 1)).map B8 := by
        rw [digB_eq, ← hy]
        match k, hlt with
        | 0, _ => rfl
        | 1, _ => rfl
        | 2, _ => rfl
        | 3, _ => rfl
      obtain ⟨n, hn⟩ : ∃ n : Nat, n = y % 16 := ⟨_, rfl⟩
      have HBK' : ∃ hnl : n < 16, Hid (splice ((hexD X k).map B8) (3 - k) [B8 (digB n hnl)] = (hexD X (k + 1)).map B8) := ⟨by omega, by subst hn; exact Lib.hid hbk⟩
      obtain ⟨hnl', HBK'⟩ := HBK'
      rw [← hn] at han
      have hni : (n : Int) < 16 := by omega
      have hn0 : (0 : Int) ≤ (n : Int) := by omega
      have hwn : IntKind.i64.wrap (n : Int) = (n : Int) := by simp only [IntKind.wrap_i64]; omega
      have hlenD : ((hexD X k).map B8).length = 4 := by
        rw [List.length_map]
        match k, hlt with
        | 0, _ => rfl
        | 1, _ => rfl
        | 2, _ => rfl
        | 3, _ => rfl
      have HLD := Lib.hid hlenD
      have HY2 := Lib.hid hy2
      clear hn hnl hy hbk hz hlenD hy2
      obtain ⟨j, hj⟩ : ∃ j : Nat, 3 - k = j := ⟨_, rfl⟩
      rw [hj] at HBK'
      have hjI : (3 : Int) - (k : Int) = (j : Int) := by omega
      rw [hjI]
      have hj0 : (0 : Int) ≤ (j : Int) := by omega
      have hj4 : (j : Int) < 4 := by omega
      have hj4n : j < 4 := by omega
      have hjn : Hid ((j : Int) - 1 = 3 - ((k + 1 : Nat) : Int)) := by
        have : (j : Int) - 1 = 3 - ((k + 1 : Nat) : Int) := by omega
        exact this
      obtain ⟨J, hJ⟩ : ∃ J : Int, (j : Int) - 1 = J := ⟨_, rfl⟩
      rw [hJ] at hjn
      have hJI : IntKind.i64.wrap J = J := by simp only [IntKind.wrap_i64]; omega
      have hmeas : Hid ((J + 1).toNat < ((j : Int) + 1).toNat) := by
        have : (J + 1).toNat < ((j : Int) + 1).toNat := by omega
        exact this
      clear hj hjI
      go_wp2_with (with_reducible refine wpList_put (o := ⟨none, .store 5 (.tmp 13) (.tmp 12), _, _, _, _⟩) (by with_unfolding_all rfl) 5 (.tmp 13) (.tmp 12) (by with_unfolding_all rfl) g j (by with_unfolding_all rfl) (B8 (digB n hnl')) (by with_unfolding_all rfl) hB [B8 (digB n hnl')] (by with_unfolding_all rfl) (by with_unfolding_all (exact Tryd.sz8)) (by with_unfolding_all (rw [HLD.out]; show j + 1 ≤ 4; omega)) (by with_unfolding_all (exact one_cell1 rfl)) ?_)
      intro w2 hu2 hB2
      rw [HBK'.out] at hB2
      have hb2 := hbel.trans (hu2.below (B := w.heap.size) hgl)
      clear hB hu2 hbel HBK'
      go_wp2
      go_roundw
      case rel => exact ⟨k + 1, by omega, by rw [hjn.out], by rw [HY2.out], hB2, hb2⟩
      case measure => exact hmeas.out
    · obtain rfl : k = 4 := by omega
      have hcv : ∀ c, (convert 72 9 (.slice (some ⟨g, 0, none⟩) 4 c)).run Tryd.prog wr = .ok (.string ⟨(hexL X).toArray⟩) wr := fun c => by
        have hB4 : Blk wr g 95 ((hexL X).map B8) := hB
        exact blk_conv hB4 rfl c
      clear hB
      rw [show ((3 : Int) - ((4 : Nat) : Int)) = -1 from rfl]
      go_wp2_with (with_reducible refine wpList_cutA (o := ⟨some 16, .slice 95 (.tmp 3) none none none, _, _, _, _⟩) ?g2 95 (.tmp 3) ?o2 g 0 ?x2 4 5 ?u2 ?i2 ?m2 ?_)
      try (case x2 => rfl)
      try (case g2 => rfl)
      try (case o2 => rfl)
      try (case u2 => exact Tryd.underlying95)
      try (case i2 => exact Tryd.sz8)
      try (case m2 => decide)
      go_wp2
      go_ret
      exact ⟨rfl, hbel⟩
end Go.Proofs.YtbgndopgllnmaaaDoor
