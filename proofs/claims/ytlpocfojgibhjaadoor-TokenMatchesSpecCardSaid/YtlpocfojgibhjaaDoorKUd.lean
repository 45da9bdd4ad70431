/-
  Contracts of the walks over the reference's Hex and Join. Conditions: few tokens; texts that fit into memory.
-/
import Derived.Test.YtlpocfojgibhjaaDoorKUc
import Derived.Test.YtlpocfojgibhjaaDoorKQw
namespace Go.Proofs.YtlpocfojgibhjaaDoor
set_option linter.unusedVariables false
set_option linter.unusedSimpArgs false
open Go.RowKit Go.Shelf

theorem byte_conv {w : World} {g : Nat} {t : TypeId} {c : UInt8} (h : Blk w g t [B8 c]) : (convert 51 9 (.slice (some ⟨g, 0, none⟩) 1 1)).run Tryd.prog w = .ok (.string { data := #[c] }) w := by
  have := run_conv w ⟨g, 0, none⟩ 1 [c] (fun k u hu => by rw [addr_mid, Nat.zero_add]; exact h.cell hu)
  exact this
theorem run_byte1 (w : World) (c : Int) : (Instr.buildSlice 51 1 #[(0, .int .u8 c)]).run Tryd.prog w = .ok (.slice (some ⟨w.heap.size, 0, none⟩) 1 1) (w.alloc (.cells [Value.int .u8 c].toArray 5)) := by kernel_rfl
theorem wpList_byte1 {ops : Array Oper} {rest : List Oper} {o : Oper} {a : Act} {w : World} {Q : Exit → Act → World → Prop} (hgd : o.guard = none) (x : Operand) (ho : o.op = .buildSlice 51 1 #[(0, x)]) (c : UInt8) (hx : a.eval x = .int .u8 (c.toNat : Int))
    (h : ∀ g w', Hid (g = w.heap.size) → Below w.heap.size w w' → Blk w' g 5 [B8 c] → wpList Tryd.prog ops Q rest (a.put o.dst (.slice (some ⟨g, 0, none⟩) 1 1)) w') : wpList Tryd.prog ops Q (o :: rest) a w := by
  refine wpList_plain hgd fun K hK => ?_
  have hr := run_byte1 w (c.toNat : Int)
  unfold Oper.wp execOp
  simp only [ho, List.map_toArray, List.map_cons, List.map_nil, hx, Sem.run_bind, Sem.run_pure, Result.andThen_ok, hr]
  exact hK _ _ (h _ _ rfl (below_new w _) (blk_new w _ _))
theorem digH_lo {d : Nat} (h : d ≤ 9) : (digH d).toNat = 48 + d := by
  have : ∀ m : Fin 10, (digH m.1).toNat = 48 + m.1 := by decide
  exact this ⟨d, by omega⟩
theorem digH_hi {d : Nat} (h : 9 < d) (h2 : d < 16) : (digH d).toNat = 87 + d := by
  have : ∀ m : Fin 16, 9 < m.1 → (digH m.1).toNat = 87 + m.1 := by decide
  exact this ⟨d, h2⟩ h
def HxR (n : Nat) (w : World) (x m o : Value) (wr : World) : Prop :=
  ∃ (y : Nat) (b : Bool) (ds : List UInt8), x = .int .i64 (y : Int) ∧ m = .bool b ∧ o = .string ⟨ds.toArray⟩ ∧ y ≤ 1073741824 ∧ ds.length ≤ 9 ∧ (b = true → hexD y ++ ds = hexD n) ∧ (b = false → ds = hexD n) ∧ (b = false → y = 0) ∧ (b = true → y = 0 → n = 0) ∧ Below w.heap.size w wr
set_option maxRecDepth 100000 in
set_option maxHeartbeats 3200000 in
theorem rhex_any (n : Int) (w : World) : Calls Tryd.prog 21 #[.int .i64 n] w fun e w' => e = .returned (.string ⟨(hexM n).toArray⟩) ∧ Below w.heap.size w w' := by
  by_cases h0 : n < 0
  · have hr : hexM n = [] := if_pos (Or.inl h0)
    rw [hr]
    go_enter Tryd.func21, Tryd.ntmps21
    go_wp2
    go_ret
    exact ⟨rfl, Below.refl _ _⟩
  · by_cases h1 : 1073741824 < n
    · have hr : hexM n = [] := if_pos (Or.inr h1)
      rw [hr]
      go_enter Tryd.func21, Tryd.ntmps21
      go_wp2
      go_ret
      exact ⟨rfl, Below.refl _ _⟩
    · have hr : hexM n = 48 :: 120 :: hexD n.toNat := if_neg (by omega)
      obtain ⟨m, rfl⟩ : ∃ m : Nat, n = (m : Int) := ⟨n.toNat, by omega⟩
      have hm : m ≤ 1073741824 := by omega
      have hmi : ¬ (1073741824 : Int) < (m : Int) := by omega
      have hm0 : ¬ (m : Int) < 0 := by omega
      rw [hr, Int.toNat_natCast]
      clear hr h0 h1
      obtain ⟨F, hF⟩ : ∃ F : ByteArray, Hid (⟨(48 :: 120 :: hexD m).toArray⟩ = F) := ⟨_, rfl⟩
      rw [hF.out]
      go_enter Tryd.func21, Tryd.ntmps21
      go_wp2
      go_loopw [0, 4, 3] (HxR m w) (fun x b _ _ => match b with | .bool true => (intOf x).toNat + 1 | _ => 0)
      case atStart => exact ⟨m, true, [], rfl, rfl, rfl, hm, by simp, fun _ => List.append_nil _, fun h => (by cases h), fun h => (by cases h), fun _ h => h, Below.refl _ _⟩
      case round =>
        obtain ⟨y, b, ds, rfl, rfl, rfl, hy, hds, ht, hf, hz, hzz, hbe⟩ := hrel
        cases b with
        | true =>
          have hq := ht rfl
          have hzz2 := hzz rfl
          have HQ := Lib.hid hq
          obtain ⟨d, hd⟩ : ∃ d, y % 16 = d := ⟨_, rfl⟩
          obtain ⟨x, hx⟩ : ∃ x, y / 16 = x := ⟨_, rfl⟩
          have hd16 : d < 16 := by omega
          have hxi : (y : Int).tdiv 16 = (x : Int) := by rw [← hx]; rfl
          have hdi : (y : Int).tmod 16 = (d : Int) := by rw [← hd]; rfl
          have hxi2 : (y : Int) / 16 = (x : Int) := by omega
          have hdi2 : (y : Int) % 16 = (d : Int) := by omega
          have hyi : (y : Int) ≤ 1073741824 := by omega
          have hy0 : (0 : Int) ≤ (y : Int) := by omega
          have hdi16 : (d : Int) < 16 := by omega
          have hd0 : (0 : Int) ≤ (d : Int) := by omega
          have hlen9 := hexD_len m
          have hqs := congrArg List.length hq
          rw [List.length_append] at hqs
          have hst : Hid (if y < 16 then hexD y = [digH d] else hexD y = hexD x ++ [digH d]) := by
            have : if y < 16 then hexD y = [digH d] else hexD y = hexD x ++ [digH d] := by
              split
              · rename_i h; rw [hexD_last h, ← hd, Nat.mod_eq_of_lt h]
              · rename_i h; rw [hexD_step hy h, hx, hd]
            exact this
          have hD1 := digH_lo (d := d)
          have hD2 := fun h => digH_hi (d := d) h hd16
          obtain ⟨D, hD⟩ : ∃ D, digH d = D := ⟨_, rfl⟩
          rw [hD] at hst hD1 hD2
          have hyp : 0 < (hexD y).length := by
            have := hst.out
            split at this <;> rw [this] <;> simp
          have hdl8 : ds.length ≤ 8 := by omega
          obtain ⟨O, hO⟩ : ∃ O : ByteArray, (⟨ds.toArray⟩ : ByteArray) = O := ⟨_, rfl⟩
          have hOs : O.size ≤ 8 := by rw [← hO, mk_size]; exact hdl8
          have hcat : ¬ 9223372036854775807 < 1 + O.size := by omega
          have hnew : Hid ((⟨(D :: ds).toArray⟩ : ByteArray) = { data := #[D] } ++ O) := by
            have : (⟨(D :: ds).toArray⟩ : ByteArray) = { data := #[D] } ++ O := by
              apply data_inj
              rw [← hO]; simp
            exact this
          have hxb : Hid (x ≤ 1073741824) := (by omega : x ≤ 1073741824)
          have hx16 : Hid (y < 16 ↔ x = 0) := (by omega : y < 16 ↔ x = 0)
          have hdl9 : Hid ((D :: ds).length ≤ 9) := (by simp; omega : (D :: ds).length ≤ 9)
          have hxy : Hid (x ≤ y ∧ (0 < x → x < y)) := (by omega : x ≤ y ∧ (0 < x → x < y))
          rw [hO]
          clear hq ht hf hz hzz hzz2 hd hx hlen9 hqs hD hyp hdl8 hO hy hds
          by_cases h9 : d ≤ 9
          · have h9i : ¬ (9 : Int) < (d : Int) := by omega
            have hDn := hD1 h9
            have hu8 := u8_small (48 + d) (by omega)
            have hu8b : (48 : Int) + (d : Int) = (D.toNat : Int) := by omega
            have hu8c : IntKind.u8.wrap (D.toNat : Int) = (D.toNat : Int) := u8_small _ (by omega)
            clear hD1 hD2 hu8 hDn
            by_cases hx0 : x = 0
            · have hxg : ¬ (0 : Int) < (x : Int) := by omega
              have HX := Lib.hid hx0
              clear hx0
              go_wp2_with (with_reducible refine wpList_byte1 (o := ⟨some 28, .buildSlice 51 1 #[(0, .tmp 27)], _, _, _, _⟩) (by with_unfolding_all rfl) (.tmp 27) (by with_unfolding_all rfl) D (by with_unfolding_all rfl) ?_)
              intro gb w2 hgb hb2 Bb
              have hbe := below_join hbe hb2
              have hcv := byte_conv Bb
              go_wp2
              go_roundw
              case rel => exact ⟨x, false, D :: ds, by go_num, by first | rfl | (simp; exact HX.out), by rw [hnew.out], hxb.out, hdl9.out, fun h => (by cases h), fun _ => by
                  have := hst.out
                  rw [if_pos (hx16.out.2 HX.out)] at this
                  rw [← HQ.out, this]; rfl, fun _ => HX.out, fun h => (by cases h), hbe⟩
              case measure => simp [intOf, HX.out]
            · have hxg : (0 : Int) < (x : Int) := by omega
              have HX := Lib.hid hx0
              clear hx0
              go_wp2_with (with_reducible refine wpList_byte1 (o := ⟨some 28, .buildSlice 51 1 #[(0, .tmp 27)], _, _, _, _⟩) (by with_unfolding_all rfl) (.tmp 27) (by with_unfolding_all rfl) D (by with_unfolding_all rfl) ?_)
              intro gb w2 hgb hb2 Bb
              have hbe := below_join hbe hb2
              have hcv := byte_conv Bb
              go_wp2
              go_roundw
              case rel => exact ⟨x, true, D :: ds, by go_num, by first | rfl | (simp; exact Nat.pos_of_ne_zero HX.out), by rw [hnew.out], hxb.out, hdl9.out, fun _ => by
                  have := hst.out
                  rw [if_neg (fun h => HX.out (hx16.out.1 h))] at this
                  rw [← HQ.out, this, List.append_assoc]; rfl, fun h => (by cases h), fun h => (by cases h), fun _ h => absurd h HX.out, hbe⟩
              case measure => have := hxy.out.2 (Nat.pos_of_ne_zero HX.out); simp [intOf, Nat.pos_of_ne_zero HX.out]; omega
          · have h9i : (9 : Int) < (d : Int) := by omega
            have hDn := hD2 (by omega)
            have hu8b : (97 : Int) + (d : Int) - 10 = (D.toNat : Int) := by omega
            have hu8c : IntKind.u8.wrap (D.toNat : Int) = (D.toNat : Int) := u8_small _ (by omega)
            have hu8d : IntKind.u8.wrap (48 + (d : Int)) = 48 + (d : Int) := by
              have := u8_small (48 + d) (by omega)
              rw [Int.natCast_add] at this
              exact this
            clear hD1 hD2 hDn
            by_cases hx0 : x = 0
            · have hxg : ¬ (0 : Int) < (x : Int) := by omega
              have HX := Lib.hid hx0
              clear hx0
              go_wp2_with (with_reducible refine wpList_byte1 (o := ⟨some 28, .buildSlice 51 1 #[(0, .tmp 27)], _, _, _, _⟩) (by with_unfolding_all rfl) (.tmp 27) (by with_unfolding_all rfl) D (by with_unfolding_all rfl) ?_)
              intro gb w2 hgb hb2 Bb
              have hbe := below_join hbe hb2
              have hcv := byte_conv Bb
              go_wp2
              go_roundw
              case rel => exact ⟨x, false, D :: ds, by go_num, by first | rfl | (simp; exact HX.out), by rw [hnew.out], hxb.out, hdl9.out, fun h => (by cases h), fun _ => by
                  have := hst.out
                  rw [if_pos (hx16.out.2 HX.out)] at this
                  rw [← HQ.out, this]; rfl, fun _ => HX.out, fun h => (by cases h), hbe⟩
              case measure => simp [intOf, HX.out]
            · have hxg : (0 : Int) < (x : Int) := by omega
              have HX := Lib.hid hx0
              clear hx0
              go_wp2_with (with_reducible refine wpList_byte1 (o := ⟨some 28, .buildSlice 51 1 #[(0, .tmp 27)], _, _, _, _⟩) (by with_unfolding_all rfl) (.tmp 27) (by with_unfolding_all rfl) D (by with_unfolding_all rfl) ?_)
              intro gb w2 hgb hb2 Bb
              have hbe := below_join hbe hb2
              have hcv := byte_conv Bb
              go_wp2
              go_roundw
              case rel => exact ⟨x, true, D :: ds, by go_num, by first | rfl | (simp; exact Nat.pos_of_ne_zero HX.out), by rw [hnew.out], hxb.out, hdl9.out, fun _ => by
                  have := hst.out
                  rw [if_neg (fun h => HX.out (hx16.out.1 h))] at this
                  rw [← HQ.out, this, List.append_assoc]; rfl, fun h => (by cases h), fun h => (by cases h), fun _ h => absurd h HX.out, hbe⟩
              case measure => have := hxy.out.2 (Nat.pos_of_ne_zero HX.out); simp [intOf, Nat.pos_of_ne_zero HX.out]; omega
        | false =>
          have hq := hf rfl
          have hfin : Hid ({ data := #[48, 120] } ++ (⟨ds.toArray⟩ : ByteArray) = F) := by
            have : { data := #[48, 120] } ++ (⟨ds.toArray⟩ : ByteArray) = F := by
              rw [← hF.out, ← hq]
              apply data_inj
              simp
            exact this
          obtain ⟨O, hO⟩ : ∃ O : ByteArray, (⟨ds.toArray⟩ : ByteArray) = O := ⟨_, rfl⟩
          have hOs : O.size ≤ 9 := by rw [← hO, mk_size]; exact hds
          have hcat : ¬ 9223372036854775807 < 2 + O.size := by omega
          rw [hO] at hfin ⊢
          clear ht hf hz hzz hq hO
          go_wp2
          go_ret
          exact ⟨ret_str hfin.out.symm, hbe⟩
theorem join_snoc : ∀ (xs : List (List UInt8)) (x : List UInt8), xs ≠ [] → Lib.join (xs ++ [x]) [32] = Lib.join xs [32] ++ 32 :: x
  | [], _, h => absurd rfl h
  | [a], x, _ => by
    show Lib.join (a :: x :: []) [32] = _
    rw [join_two, Lib.join_one, Lib.join_one]
  | a :: b :: r, x, _ => by
    show Lib.join (a :: b :: (r ++ [x])) [32] = _
    rw [join_two, join_two]
    have ih := join_snoc (b :: r) x (by simp)
    rw [List.cons_append] at ih
    rw [ih]
    simp
def JrR (l : List Tok) (w : World) (i f o : Value) (wr : World) : Prop :=
  ∃ k : Nat, k ≤ l.length ∧ i = .int .i64 (k : Int) ∧ f = .bool (joinTs (l.take k)).isEmpty ∧ o = .string ⟨(joinM (l.take k)).toArray⟩ ∧ Below w.heap.size w wr
theorem jm_len (l : List Tok) (k : Nat) : (joinM (l.take k)).length ≤ totL l + l.length := by
  have h1 := join_len (joinTs (l.take k))
  have h2 := tot_filter (l.take k)
  have h3 := totL_take l k
  have h4 : (joinTs (l.take k)).length ≤ (l.take k).length := List.length_filter_le _ _
  have h5 : (l.take k).length ≤ l.length := by rw [List.length_take]; omega
  show (Lib.join ((joinTs (l.take k)).map (·.text)) [32]).length ≤ _
  omega
set_option maxRecDepth 100000 in
set_option maxHeartbeats 3200000 in
theorem rjoin_any (A : Option Addr) (c : Nat) (l : List Tok) (w : World) (hN : l.length ≤ 100000) (hT : totL l ≤ 100000) (hA : TksAt w A l) :
    Calls Tryd.prog 12 #[.slice A l.length c] w fun e w' => e = .returned (.string ⟨(joinM l).toArray⟩) ∧ Below w.heap.size w w' := by
  obtain ⟨n, hn⟩ : ∃ n, Hid (l.length = n) := ⟨_, rfl⟩
  have hjm : ∀ k, (joinM (l.take k)).length ≤ 200000 := fun k => Nat.le_trans (jm_len l k) (by omega)
  rw [hn.out] at hN ⊢
  have HA := Lib.hid hA
  have HJM := Lib.hid hjm
  clear hA hjm hT
  have hni : (n : Int) ≤ 100000 := by omega
  go_enter Tryd.func12, Tryd.ntmps12
  go_wp2
  go_loopw [5, 4, 3] (JrR l w) (fun i _ _ _ => n - (intOf i).toNat)
  case atStart => exact ⟨0, Nat.zero_le _, rfl, rfl, rfl, Below.refl _ _⟩
  case round =>
    obtain ⟨k, hk, rfl, rfl, rfl, hbe⟩ := hrel
    rw [hn.out] at hk
    by_cases hlt : k < n
    · have hki : (k : Int) < (n : Int) := by omega
      have hk0 : (0 : Int) ≤ (k : Int) := by omega
      obtain ⟨t, ht⟩ : ∃ t, l[k]? = some t := ⟨_, List.getElem?_eq_getElem (by rw [hn.out]; exact hlt)⟩
      obtain ⟨ga, oa, hAe, a0, a1, a2, a3, a4⟩ := (HA.out.next hbe).five ht
      subst hAe
      have hnx := join_next ht
      have hl1 := HJM.out k
      have hl2 := HJM.out (k + 1)
      obtain ⟨O, hO⟩ : ∃ O : ByteArray, (⟨(joinM (l.take k)).toArray⟩ : ByteArray) = O := ⟨_, rfl⟩
      have hOs : O.size ≤ 200000 := by rw [← hO, mk_size]; exact hl1
      have HO := Lib.hid hO
      rw [hO]
      clear a1 a3 a4 hO
      by_cases h6 : t.kind = 6
      · rw [if_pos h6, List.append_nil] at hnx
        have h6i : ((t.kind : Int) == 6) = true := by rw [h6]; rfl
        have HX := Lib.hid hnx
        clear hnx hl1 hl2 ht
        go_wp2
        go_roundw
        case rel => exact ⟨k + 1, by rw [hn.out]; exact hlt, by go_num, by rw [HX.out], by unfold joinM; rw [HX.out, ← HO.out]; rfl, hbe⟩
        case measure => simp [intOf]; omega
      · rw [if_neg h6] at hnx
        have h6i : ((t.kind : Int) == 6) = false := beq_eq_false_iff_ne.2 (by omega)
        have hXs : (tB t).size = t.text.length := mk_size t.text
        have hem2 : (joinTs (l.take (k + 1))).isEmpty = false := by rw [hnx]; simp
        have HEM2 := Lib.hid hem2
        obtain ⟨X, hX⟩ : ∃ X, tB t = X := ⟨_, rfl⟩
        rw [hX] at a2 hXs
        by_cases he : joinTs (l.take k) = []
        · have hem : (joinTs (l.take k)).isEmpty = true := by rw [he]; rfl
          have hO0 : O = { data := #[] } := by
            rw [← HO.out]; unfold joinM; rw [he]; rfl
          have hj : (⟨(joinM (l.take (k + 1))).toArray⟩ : ByteArray) = O ++ X := by
            apply data_inj
            rw [hO0, ← hX]
            unfold joinM
            rw [hnx, he]
            simp [Lib.join_one, tB]
          have HJ := Lib.hid hj
          have hXb : X.size ≤ 200000 := by
            have := congrArg ByteArray.size hj
            rw [mk_size, app_size] at this
            omega
          have hcat : ¬ 9223372036854775807 < O.size + X.size := by omega
          rw [hem]
          clear hem hem2 hnx hl1 hl2 ht h6 he hO0 hj hX hXs
          go_wp2
          go_roundw
          case rel => exact ⟨k + 1, by rw [hn.out]; exact hlt, by go_num, by rw [HEM2.out], by rw [HJ.out], hbe⟩
          case measure => simp [intOf]; omega
        · have hem : (joinTs (l.take k)).isEmpty = false := by
            cases hc : joinTs (l.take k) with
            | nil => exact absurd hc he
            | cons a b => rfl
          have hj : (⟨(joinM (l.take (k + 1))).toArray⟩ : ByteArray) = O ++ { data := #[32] } ++ X := by
            apply data_inj
            rw [← HO.out, ← hX]
            unfold joinM
            rw [hnx, List.map_append, List.map_cons, List.map_nil, join_snoc _ _ (by simpa using he)]
            simp [tB]
          have HJ := Lib.hid hj
          have hXb : X.size ≤ 200000 := by
            have := congrArg ByteArray.size hj
            rw [mk_size, app_size] at this
            omega
          have hcat1 : ¬ 9223372036854775807 < O.size + 1 := by omega
          have hcat2 : ¬ 9223372036854775807 < (O ++ { data := #[32] } : ByteArray).size + X.size := by rw [app_size]; show ¬ 9223372036854775807 < O.size + 1 + X.size; omega
          have hcat3 : ¬ 9223372036854775807 < O.size + 1 + X.size := by omega
          rw [hem]
          clear hem hem2 hnx hl1 hl2 ht h6 he hj hX hXs
          go_wp2
          go_roundw
          case rel => exact ⟨k + 1, by rw [hn.out]; exact hlt, by go_num, by rw [HEM2.out], by rw [HJ.out], hbe⟩
          case measure => simp [intOf]; omega
    · have hkn : k = n := by omega
      subst hkn
      have htk : l.take k = l := by rw [← hn.out]; exact List.take_length
      rw [htk]
      clear htk
      go_wp2
      go_ret
      exact ⟨rfl, hbe⟩
end Go.Proofs.YtlpocfojgibhjaaDoor
