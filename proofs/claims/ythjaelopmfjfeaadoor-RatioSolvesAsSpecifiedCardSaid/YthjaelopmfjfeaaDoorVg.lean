/-
  Contracts of the walks over Text of both sides and Parse of the program. Conditions: normal ratios; the library's variables lie there.
-/
import Derived.Test.YthjaelopmfjfeaaDoorVf
import Derived.Test.YthjaelopmfjfeaaDoorShelfq
import Derived.Shelf.Strconv.Itoa3
import Derived.Shelf.Strconv.AtoiAll
import Derived.Shelf.Strings.Cut
import Derived.Lib.AppendIntMem
import Derived.Laws.Strings
import Derived.OwnWalk
namespace Go.Proofs.YthjaelopmfjfeaaDoor
set_option linter.unusedVariables false
set_option linter.unusedSimpArgs false
open Go.RowKit Go.Shelf

/-- The library's variables lie there. -/
structure QW (w : World) : Prop where
  tab : Lib.TabIs Tryd.prog w "internal/strconv.uint64pow10" .u64 Lib.pow10Tab
  syn : ∃ ev, w.cell? ⟨Tryd.atoiA_ren.g 15, 0, none⟩ = some ev ∧ (ev = .nilIface ∨ ∃ te pe, ev = .iface te pe)
  rng : ∃ ev, w.cell? ⟨Tryd.atoiA_ren.g 16, 0, none⟩ = some ev ∧ (ev = .nilIface ∨ ∃ te pe, ev = .iface te pe)
theorem tab_next {n : String} {g : Nat} {k : IntKind} {zs : List Int} {w w' : World} (hg : Tryd.prog.globalNamed n = some g) (h : Lib.TabIs Tryd.prog w n k zs) (hb : Below w.heap.size w w') : Lib.TabIs Tryd.prog w' n k zs := by
  unfold Lib.TabIs World.var? at h ⊢
  rw [hg] at h ⊢
  simp only [Option.bind_some] at h ⊢
  have hlt : g < w.heap.size := by
    rcases Nat.lt_or_ge g w.heap.size with h' | h'
    · exact h'
    · rw [Array.getElem?_eq_none h'] at h; cases h
  rw [hb.block g hlt]
  exact h
theorem cell_next {w w' : World} (hb : Below w.heap.size w w') {a : Addr} {v : Value} (hc : w.cell? a = some v) : w'.cell? a = some v := (hb.cell (World.block_lt_of_cell? w a hc)).trans hc
theorem QW.next {w w' : World} (h : QW w) (hb : Below w.heap.size w w') : QW w' := by
  obtain ⟨h1, ⟨e, h3, h4⟩, ⟨f, h5, h6⟩⟩ := h
  exact ⟨tab_next (g := 3) (by kernel_rfl) h1 hb, ⟨e, cell_next hb h3, h4⟩, ⟨f, cell_next hb h5, h6⟩⟩
theorem itoa_any (n : Int) (w : World) (h0 : -1073741824 ≤ n) (h1 : n ≤ 1073741824) (hq : QW w) : Calls Tryd.prog 57 #[.int .i64 n] w fun e w' => e = .returned (.string ⟨(Lib.itoa n).toArray⟩) ∧ Below w.heap.size w w' := by
  refine Calls.mono (Any.strconv_Itoa Tryd.itoaA n (by omega) (by omega) w hq.tab) ?_
  rintro e w' ⟨rfl, k, os, rfl⟩
  exact ⟨rfl, Lib.below_grow _ w (Nat.le_refl _) k os⟩
theorem atoi_any (s : ByteArray) (w : World) (hs : s.size ≤ 140737488355328) (hq : QW w) : Calls Tryd.prog 53 #[.string s] w fun e w' => (∃ v, e = .returned (.tuple #[.int .i64 (atoiV s.data.toList), v])) ∧ Below w.heap.size w w' := by
  obtain ⟨ev, h3, h4⟩ := hq.syn
  obtain ⟨fv, h5, h6⟩ := hq.rng
  rcases ha : Lib.atoiAll s.data.toList with v | _ | _
  · refine Calls.mono (Any.strconv_Atoi_ok Tryd.atoiA s (by omega) v ha w) ?_
    rintro e w' ⟨rfl, hw⟩
    refine ⟨⟨_, by unfold atoiV; rw [ha]⟩, ?_⟩
    rcases hw with rfl | ⟨t, rfl⟩
    · exact Below.refl _ _
    · exact Lib.bytesWorld_below _ _ _
  · refine Calls.mono (Any.strconv_Atoi_syntax Tryd.atoiA s (by omega) ha ev w h3 h4) ?_
    rintro e w' ⟨N, rfl, _, _, hb⟩
    exact ⟨⟨_, by unfold atoiV; rw [ha]⟩, hb⟩
  · refine Calls.mono (Any.strconv_Atoi_range Tryd.atoiA s (by omega) ha fv w h5 h6) ?_
    rintro e w' ⟨N, rfl, _, _, hb⟩
    exact ⟨⟨_, by unfold atoiV; rw [ha]⟩, hb⟩
theorem bytes_size (s : ByteArray) : s.data.toList.length = s.size := by rw [Array.length_toList]; rfl
theorem byte_le : ∀ (l : List UInt8) (c : UInt8), Lib.indexByte l c < l.length
  | [], _ => by show (-1 : Int) < 0; omega
  | b :: l, c => by
    have h := byte_le l c
    unfold Lib.indexByte
    rw [List.length_cons]
    split
    · omega
    · split <;> omega
set_option maxRecDepth 100000 in
set_option maxHeartbeats 1600000 in
theorem sindex_any (s : ByteArray) (w : World) : Calls Tryd.prog 81 #[.string s, .string { data := #[47] }] w fun e w' => e = .returned (.int .i64 (Lib.indexByte s.data.toList 47)) ∧ w' = w := by
  obtain ⟨I, hI⟩ : ∃ I, Hid (Lib.indexByte s.data.toList 47 = I) := ⟨_, Lib.hid rfl⟩
  have HIB : Hid (∀ w, Calls Tryd.prog 93 #[.string s, .int .u8 47] w fun e w' => e = .returned (.int .i64 I) ∧ w' = w) := by
    have : ∀ w, Calls Tryd.prog 93 #[.string s, .int .u8 47] w fun e w' => e = .returned (.int .i64 I) ∧ w' = w := fun w => by
      rw [← hI.out]
      exact Any.stringslite_IndexByte (ρ := Tryd.cutQ_ren) { Tryd.cutQ with } s 47 w
    exact this
  rw [hI.out]
  go_enter Tryd.func81, Tryd.ntmps81
  by_cases hs : s = { data := #[47] }
  · subst hs
    have h0 : I = 0 := by rw [← hI.out]; rfl
    subst h0
    go_wp2
    go_ret
    exact ⟨rfl, rfl⟩
  · have hne : ([47] == s.toList) = false := beq_eq_false_iff_ne.2 (fun e => hs (by
      rw [ByteArray.toList_eq] at e
      apply ByteArray.ext
      apply Array.ext'
      exact e.symm))
    clear hs
    go_wp2_with fail
    refine (HIB.out _).mono ?_
    rintro e w1 ⟨rfl, rfl⟩
    go_wp2
    go_ret
    exact ⟨rfl, rfl⟩
set_option maxRecDepth 100000 in
set_option maxHeartbeats 1600000 in
theorem scut0_any (s : ByteArray) (w : World) (hs : s.size ≤ 140737488355328) :
    Calls Tryd.prog 68 #[.string s, .string { data := #[47] }] w fun e w' => e = .returned (.tuple #[.string ⟨(Lib.cut s.data.toList [47]).1.toArray⟩, .string ⟨(Lib.cut s.data.toList [47]).2.1.toArray⟩, .bool (Lib.cut s.data.toList [47]).2.2]) ∧ Below w.heap.size w w' := by
  have hlen : s.data.toList.length = s.size := bytes_size s
  have hlt := byte_le s.data.toList 47
  have hge := Lib.indexByte_ge s.data.toList 47
  have HIX := Lib.hid (fun w => sindex_any s w)
  have hcut : Lib.cut s.data.toList [47] = if 0 ≤ Lib.indexByte s.data.toList 47 then (s.data.toList.take (Lib.indexByte s.data.toList 47).toNat, s.data.toList.drop ((Lib.indexByte s.data.toList 47).toNat + 1), true) else (s.data.toList, [], false) := by unfold Lib.cut; rw [Lib.index_one]; rfl
  obtain ⟨I, hI⟩ : ∃ I, Lib.indexByte s.data.toList 47 = I := ⟨_, rfl⟩
  rw [hI] at hlt hge HIX hcut
  rw [hlen] at hlt
  by_cases h0 : 0 ≤ I
  · obtain ⟨i, rfl⟩ : ∃ i : Nat, I = (i : Int) := ⟨I.toNat, by omega⟩
    rw [if_pos h0, Int.toNat_natCast] at hcut
    rw [hcut]
    have e1 : (⟨(s.data.toList.take i).toArray⟩ : ByteArray) = s.extract 0 i := by
      apply ByteArray.ext; apply Array.ext'
      rw [Lib.extract_from_zero]
    have e2 : (⟨(s.data.toList.drop (i + 1)).toArray⟩ : ByteArray) = s.extract (i + 1) s.size := by
      apply ByteArray.ext; apply Array.ext'
      rw [Lib.extract_to_end]
    show Calls Tryd.prog _ _ w fun e w' => e = .returned (.tuple #[.string ⟨(s.data.toList.take i).toArray⟩, .string ⟨(s.data.toList.drop (i + 1)).toArray⟩, .bool true]) ∧ Below w.heap.size w w'
    rw [e1, e2]
    clear e1 e2 hcut hI hlen
    have h1 : (i : Int) ≤ (s.size : Int) := by omega
    have h2 : (i : Int) + 1 ≤ (s.size : Int) := by omega
    have h3 : IntKind.i64.wrap ((i : Int) + 1) = (i : Int) + 1 := by simp only [IntKind.wrap_i64]; omega
    have h4 : (0 : Int) ≤ (i : Int) := by omega
    have h5 : (0 : Int) ≤ (i : Int) + 1 := by omega
    go_enter Tryd.func68, Tryd.ntmps68
    go_wp2_with fail
    (with_reducible refine (HIX.out _).mono ?_)
    rintro e w1 ⟨rfl, rfl⟩
    go_wp2
    go_quiet (fail)
    have hbe := below_drewN w1 nq
    go_wp2
    go_ret3
    exact ⟨rfl, hbe⟩
  · rw [if_neg h0] at hcut
    rw [hcut]
    have e1 : (⟨s.data.toList.toArray⟩ : ByteArray) = s := by
      apply ByteArray.ext; apply Array.ext'; rfl
    show Calls Tryd.prog _ _ w fun e w' => e = .returned (.tuple #[.string ⟨s.data.toList.toArray⟩, .string ⟨([] : List UInt8).toArray⟩, .bool false]) ∧ Below w.heap.size w w'
    rw [e1]
    clear e1 hcut hI hlen
    go_enter Tryd.func68, Tryd.ntmps68
    go_wp2_with fail
    (with_reducible refine (HIX.out _).mono ?_)
    rintro e w1 ⟨rfl, rfl⟩
    go_wp2
    go_ret3
    exact ⟨rfl, Below.refl _ _⟩
set_option maxRecDepth 100000 in
set_option maxHeartbeats 1600000 in
theorem cutQ_any (s : ByteArray) (w : World) (hs : s.size ≤ 140737488355328) :
    Calls Tryd.prog 52 #[.string s, .string { data := #[47] }] w fun e w' => e = .returned (.tuple #[.string ⟨(Lib.cut s.data.toList [47]).1.toArray⟩, .string ⟨(Lib.cut s.data.toList [47]).2.1.toArray⟩, .bool (Lib.cut s.data.toList [47]).2.2]) ∧ Below w.heap.size w w' := by
  have HC := Lib.hid (fun w => scut0_any s w hs)
  obtain ⟨X, hX⟩ : ∃ X : ByteArray, (⟨(Lib.cut s.data.toList [47]).1.toArray⟩ : ByteArray) = X := ⟨_, rfl⟩
  obtain ⟨Y, hY⟩ : ∃ X : ByteArray, (⟨(Lib.cut s.data.toList [47]).2.1.toArray⟩ : ByteArray) = X := ⟨_, rfl⟩
  obtain ⟨Z, hZ⟩ : ∃ X : Bool, (Lib.cut s.data.toList [47]).2.2 = X := ⟨_, rfl⟩
  rw [hX, hY, hZ] at HC
  rw [hX, hY, hZ]
  clear hX hY hZ
  go_enter Tryd.func52, Tryd.ntmps52
  go_wp2_with fail
  (with_reducible refine (HC.out _).mono ?_)
  rintro e w1 ⟨rfl, hb⟩
  go_wp2
  go_ret3
  exact ⟨rfl, hb⟩
theorem itoa_len (n : Int) (h1 : -1073741824 ≤ n) (h2 : n ≤ 1073741824) : (Lib.itoa n).length ≤ 11 := by
  unfold Lib.itoa
  split
  · rw [List.length_cons]
    have := dec_len n.natAbs 9 (by omega)
    omega
  · have := dec_len n.toNat 9 (by omega)
    omega
theorem arr_size (l : List UInt8) : (⟨l.toArray⟩ : ByteArray).size = l.length := by simp [ByteArray.size]
theorem arr_list (l : List UInt8) : (⟨l.toArray⟩ : ByteArray).data.toList = l := by simp
set_option maxRecDepth 100000 in
set_option maxHeartbeats 1600000 in
theorem text_any (q : Rat) (w : World) (hq : fits q) (hw : QW w) :
    Calls Tryd.prog 31 #[.agg (qC q).toArray] w fun e w' => e = .returned (.string ⟨(textQ q).toArray⟩) ∧ Below w.heap.size w w' := by
  have hb0 := fits_bounds hq
  have HW := Lib.hid hw
  have hc2 : qC q = [Value.int .i64 q.num, Value.int .i64 (q.den : Int)] := rfl
  rw [hc2]
  have HN := Lib.hid (fun w (h : QW w) => itoa_any q.num w (by omega) (by omega) h)
  have HD := Lib.hid (fun w (h : QW w) => itoa_any (q.den : Int) w (by omega) (by omega) h)
  obtain ⟨X, hX⟩ : ∃ X : ByteArray, (⟨(Lib.itoa q.num).toArray⟩ : ByteArray) = X := ⟨_, rfl⟩
  obtain ⟨Y, hY⟩ : ∃ X : ByteArray, (⟨(Lib.itoa (q.den : Int)).toArray⟩ : ByteArray) = X := ⟨_, rfl⟩
  have hXs : X.size ≤ 11 := by rw [← hX, arr_size]; exact itoa_len _ (by omega) (by omega)
  have hYs : Y.size ≤ 11 := by rw [← hY, arr_size]; exact itoa_len _ (by omega) (by omega)
  obtain ⟨S1, hS1⟩ : ∃ S, X ++ ({ data := #[47] } : ByteArray) = S := ⟨_, rfl⟩
  have hSs : S1.size ≤ 12 := by rw [← hS1, ByteArray.size_append]; have : ({ data := #[47] } : ByteArray).size = 1 := rfl; omega
  obtain ⟨S2, hS2⟩ : ∃ S, S1 ++ Y = S := ⟨_, rfl⟩
  have z1 : (X.size : Int) ≤ 8388608 := by omega
  have z2 : (Y.size : Int) ≤ 8388608 := by omega
  have z3 : (S1.size : Int) ≤ 8388608 := by omega
  have HT1 : Hid ((q.den : Int) = 1 → (⟨(textQ q).toArray⟩ : ByteArray) = X) := by
    have : (q.den : Int) = 1 → (⟨(textQ q).toArray⟩ : ByteArray) = X := fun h => by
      unfold textQ; rw [if_pos (by omega), List.append_nil, hX]
    exact this
  have HT2 : Hid (¬ (q.den : Int) = 1 → (⟨(textQ q).toArray⟩ : ByteArray) = S2) := by
    have : ¬ (q.den : Int) = 1 → (⟨(textQ q).toArray⟩ : ByteArray) = S2 := fun h => by
      unfold textQ
      rw [if_neg (by omega), ← hS2, ← hS1, ← hX, ← hY]
      apply ByteArray.ext
      apply Array.ext'
      rw [ByteArray.data_append, Array.toList_append, ByteArray.data_append, Array.toList_append]
      simp
    exact this
  obtain ⟨T, hT⟩ : ∃ T : ByteArray, (⟨(textQ q).toArray⟩ : ByteArray) = T := ⟨_, rfl⟩
  rw [hT] at HT1 HT2 ⊢
  rw [hX] at HN
  rw [hY] at HD
  obtain ⟨c, hc⟩ : ∃ c, q.num = c := ⟨_, rfl⟩
  obtain ⟨d, hd⟩ : ∃ d, (q.den : Int) = d := ⟨_, rfl⟩
  rw [hc] at HN
  rw [hd] at HD HT1 HT2
  rw [hc, hd]
  clear hc hd hX hY hXs hYs hSs hb0 hT hc2 hq hw
  go_enter Tryd.func31, Tryd.ntmps31
  go_wp2_with (with_reducible refine wpList_box (o := ⟨some 1, .box 23 (.tmp 0), _, _, _, _⟩) ?g1 23 (.tmp 0) ?o1 (.agg [Value.int .i64 c, Value.int .i64 d].toArray) [Value.int .i64 c, Value.int .i64 d] ?x1 ?c1 ?_)
  try (case g1 => rfl)
  try (case o1 => rfl)
  try (case x1 => rfl)
  try (case c1 => rfl)
  intro g2 w1 hg2 hs1 hb1 hA1
  have hbe : Below w.heap.size w w1 := hb1.mono (Nat.le_of_eq hg2.out.symm)
  clear hb1 hs1 hg2
  have c0 := hA1.cell (k := 0) rfl
  go_wp2_with fail
  (with_reducible refine (HN.out _ (HW.out.next hbe)).mono ?_)
  rintro e w2 ⟨rfl, hb2⟩
  have hA2 := hA1.next hb2 hA1.lt
  have hbe := below_join hbe hb2
  clear hb2 hA1 c0
  have c1 := hA2.cell (k := 1) rfl
  by_cases h1 : d = 1
  · have hv := HT1.out h1
    have hdb : (d == 1) = true := beq_iff_eq.2 h1
    subst hv
    subst h1
    clear hdb
    go_wp2
    go_ret
    exact ⟨rfl, hbe⟩
  · have hv := HT2.out h1
    have hdb : (d == 1) = false := beq_eq_false_iff_ne.2 h1
    subst hv
    clear h1
    go_wp2_with fail
    (with_reducible refine (HD.out _ (HW.out.next hbe)).mono ?_)
    rintro e w3 ⟨rfl, hb3⟩
    have hbe := below_join hbe hb3
    go_wp2
    go_ret
    exact ⟨rfl, hbe⟩
set_option maxRecDepth 100000 in
set_option maxHeartbeats 1600000 in
theorem rtext_any (q : Rat) (w : World) (hq : fits q) (hw : QW w) :
    Calls Tryd.prog 32 #[.agg (qC q).toArray] w fun e w' => e = .returned (.string ⟨(textQ q).toArray⟩) ∧ Below w.heap.size w w' := by
  have hb0 := fits_bounds hq
  have HW := Lib.hid hw
  have hc2 : qC q = [Value.int .i64 q.num, Value.int .i64 (q.den : Int)] := rfl
  rw [hc2]
  have HN := Lib.hid (fun w (h : QW w) => itoa_any q.num w (by omega) (by omega) h)
  have HD := Lib.hid (fun w (h : QW w) => itoa_any (q.den : Int) w (by omega) (by omega) h)
  obtain ⟨X, hX⟩ : ∃ X : ByteArray, (⟨(Lib.itoa q.num).toArray⟩ : ByteArray) = X := ⟨_, rfl⟩
  obtain ⟨Y, hY⟩ : ∃ X : ByteArray, (⟨(Lib.itoa (q.den : Int)).toArray⟩ : ByteArray) = X := ⟨_, rfl⟩
  have hXs : X.size ≤ 11 := by rw [← hX, arr_size]; exact itoa_len _ (by omega) (by omega)
  have hYs : Y.size ≤ 11 := by rw [← hY, arr_size]; exact itoa_len _ (by omega) (by omega)
  obtain ⟨S1, hS1⟩ : ∃ S, X ++ ({ data := #[47] } : ByteArray) = S := ⟨_, rfl⟩
  have hSs : S1.size ≤ 12 := by rw [← hS1, ByteArray.size_append]; have : ({ data := #[47] } : ByteArray).size = 1 := rfl; omega
  obtain ⟨S2, hS2⟩ : ∃ S, S1 ++ Y = S := ⟨_, rfl⟩
  have z1 : (X.size : Int) ≤ 8388608 := by omega
  have z2 : (Y.size : Int) ≤ 8388608 := by omega
  have z3 : (S1.size : Int) ≤ 8388608 := by omega
  have HT1 : Hid ((q.den : Int) = 1 → (⟨(textQ q).toArray⟩ : ByteArray) = X) := by
    have : (q.den : Int) = 1 → (⟨(textQ q).toArray⟩ : ByteArray) = X := fun h => by
      unfold textQ; rw [if_pos (by omega), List.append_nil, hX]
    exact this
  have HT2 : Hid (¬ (q.den : Int) = 1 → (⟨(textQ q).toArray⟩ : ByteArray) = S2) := by
    have : ¬ (q.den : Int) = 1 → (⟨(textQ q).toArray⟩ : ByteArray) = S2 := fun h => by
      unfold textQ
      rw [if_neg (by omega), ← hS2, ← hS1, ← hX, ← hY]
      apply ByteArray.ext
      apply Array.ext'
      rw [ByteArray.data_append, Array.toList_append, ByteArray.data_append, Array.toList_append]
      simp
    exact this
  obtain ⟨T, hT⟩ : ∃ T : ByteArray, (⟨(textQ q).toArray⟩ : ByteArray) = T := ⟨_, rfl⟩
  rw [hT] at HT1 HT2 ⊢
  rw [hX] at HN
  rw [hY] at HD
  obtain ⟨c, hc⟩ : ∃ c, q.num = c := ⟨_, rfl⟩
  obtain ⟨d, hd⟩ : ∃ d, (q.den : Int) = d := ⟨_, rfl⟩
  rw [hc] at HN
  rw [hd] at HD HT1 HT2
  rw [hc, hd]
  clear hc hd hX hY hXs hYs hSs hb0 hT hc2 hq hw
  go_enter Tryd.func32, Tryd.ntmps32
  go_wp2_with (with_reducible refine wpList_box (o := ⟨some 1, .box 23 (.tmp 0), _, _, _, _⟩) ?g1 23 (.tmp 0) ?o1 (.agg [Value.int .i64 c, Value.int .i64 d].toArray) [Value.int .i64 c, Value.int .i64 d] ?x1 ?c1 ?_)
  try (case g1 => rfl)
  try (case o1 => rfl)
  try (case x1 => rfl)
  try (case c1 => rfl)
  intro g2 w1 hg2 hs1 hb1 hA1
  have hbe : Below w.heap.size w w1 := hb1.mono (Nat.le_of_eq hg2.out.symm)
  clear hb1 hs1 hg2
  have c0 := hA1.cell (k := 0) rfl
  go_wp2_with fail
  (with_reducible refine (HN.out _ (HW.out.next hbe)).mono ?_)
  rintro e w2 ⟨rfl, hb2⟩
  have hA2 := hA1.next hb2 hA1.lt
  have hbe := below_join hbe hb2
  clear hb2 hA1 c0
  have c1 := hA2.cell (k := 1) rfl
  by_cases h1 : d = 1
  · have hv := HT1.out h1
    have hdb : (d == 1) = true := beq_iff_eq.2 h1
    subst hv
    subst h1
    clear hdb
    go_wp2
    go_ret
    exact ⟨rfl, hbe⟩
  · have hv := HT2.out h1
    have hdb : (d == 1) = false := beq_eq_false_iff_ne.2 h1
    subst hv
    clear h1
    go_wp2_with fail
    (with_reducible refine (HD.out _ (HW.out.next hbe)).mono ?_)
    rintro e w3 ⟨rfl, hb3⟩
    have hbe := below_join hbe hb3
    go_wp2
    go_ret
    exact ⟨rfl, hbe⟩
end Go.Proofs.YthjaelopmfjfeaaDoor
