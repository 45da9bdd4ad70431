/-
  Contracts of the functions that the statement calls, part 10 of 13 (merged texts: Qo, Qp). Conditions: as the head of each part says.
-/
import Derived.Test.YtlpocfojgibhjaaDoorGH
import Derived.Test.YtlpocfojgibhjaaDoorGI
import Derived.Shelf.Strings.OnBuilder
import Derived.Shelf.Strings.Repeat
import Derived.Shelf.Strings.SplitShaped
import Derived.Shelf.Strconv.Itoa3

/-
  Contracts of the walks over Words, Name and Join of the program. Conditions: the program's tables lie there; texts that fit into memory.
-/
namespace Go.Proofs.YtlpocfojgibhjaaDoor
set_option linter.unusedVariables false
set_option linter.unusedSimpArgs false
open Go.RowKit Go.Shelf

theorem Tryd.joinX : Builder.Extra Tryd.prog Tryd.joinA_ren where
  sizeBuilder := by kernel_rfl
  liesBuilder := by kernel_rfl
  t5 := by kernel_rfl
  a5 := run_isAgg_plain (by kernel_rfl : Tryd.prog.underlying (Tryd.joinA_ren.t 5) = some (.int .u8)) rfl
  z5 := Tryd.replA.z5
  v5 := Tryd.replA.v5
  infoByte := by kernel_rfl
  cellsByte := by kernel_rfl
  sizeByte := by kernel_rfl
  neB5 := by decide
theorem Tryd.sz49 : (Tryd.prog.info? 60).map (·.size) = some 49 := by kernel_rfl
theorem wordVs_len : wordVs.length = 49 := rfl
theorem Tryd.szWords : (Tryd.prog.info? 60).map (·.size) = some wordVs.length := by rw [wordVs_len]; exact Tryd.sz49
def emp49 : List Value := List.replicate 49 (Value.string ByteArray.empty)
theorem Tryd.zero49 : (Tryd.prog.info? 60).map (·.zero) = some (some (.agg emp49.toArray)) := by kernel_rfl
theorem emp49_len : emp49.length = 49 := rfl
theorem words_one : ∀ u ∈ wordVs, u.oneCell' = true := by
  intro u hu
  unfold wordVs at hu
  obtain ⟨l, _, rfl⟩ := List.mem_map.1 hu
  rfl
set_option maxRecDepth 100000 in
set_option maxHeartbeats 1600000 in
theorem words_any (w : World) (hT : TT w) : Calls Tryd.prog 14 #[] w fun e w' => (∃ g, e = .returned (.slice (some ⟨g, 0, none⟩) 49 49) ∧ Blk w' g 60 wordVs) ∧ Below w.heap.size w w' := by
  have h2 := hT.words
  obtain ⟨V, hV⟩ : ∃ V, Hid (wordVs = V) := ⟨_, rfl⟩
  have hsz := Tryd.szWords
  have hone := words_one
  have hlen := wordVs_len
  rw [hV.out] at h2 hsz hone hlen ⊢
  have HV1 := Lib.hid hone
  have HVL := Lib.hid hlen
  clear hT hone hlen
  go_enter Tryd.func14, Tryd.ntmps14
  go_wp2_with (first | (with_reducible refine wpList_load_mid (op := ⟨some 2, .load 60 (.global 0), _, _, _, _⟩) (by with_unfolding_all rfl) 60 (.global 0) (by with_unfolding_all rfl) 0 0 (by with_unfolding_all rfl) V _ h2 (by exact Tryd.underlying60) (by with_unfolding_all rfl) hsz ?_) | (with_reducible refine wpList_alloc (o := ⟨some 1, .alloc 60, _, _, _, _⟩) (by with_unfolding_all rfl) 60 (by with_unfolding_all rfl) (.agg emp49.toArray) emp49 (by exact Tryd.zero49) (by with_unfolding_all rfl) ?_))
  intro g1 w1 hg1 hs1 hb1 B1
  have hb1 := hb1.mono (Nat.le_of_eq hg1.out.symm)
  have hl1 : w.heap.size ≤ g1 := Nat.le_of_eq hg1.out.symm
  go_wp2_with (with_reducible refine wpList_put (o := ⟨none, .store 60 (.tmp 1) (.tmp 2), _, _, _, _⟩) (by with_unfolding_all rfl) 60 (.tmp 1) (.tmp 2) (by with_unfolding_all rfl) g1 0 (by with_unfolding_all rfl) (.agg V.toArray) (by with_unfolding_all rfl) B1 V (by with_unfolding_all rfl) (by with_unfolding_all (exact hsz)) (by with_unfolding_all (rw [HVL.out, emp49_len]; exact Nat.le_refl _)) (by with_unfolding_all (exact HV1.out)) ?_)
  intro w2 hu2 C1
  rw [splice_all _ _ (by rw [HVL.out, emp49_len])] at C1
  have hbe := hb1.trans (hu2.below (B := w.heap.size) hl1)
  go_wp2
  go_ret
  exact ⟨⟨g1, rfl, C1⟩, hbe⟩
theorem rightTokens : True := trivial
theorem nameM_nil : nameM [] = false := rfl
theorem nameM_eq (s : ByteArray) (h : 0 < s.size) : nameM s.data.toList = (lo s[0] && decide (kindM s.data.toList = 1) && decide (runL s.data.toList = s.size)) := by
  obtain ⟨l, hl⟩ := head_of s h
  have hz := lenS s
  rw [hl] at hz ⊢
  rw [← hz]
  rfl
theorem eq_run (s : ByteArray) : ((s.extract 0 (runL s.data.toList)).toList == s.toList) = decide (runL s.data.toList = s.size) := by
  have hsz := run_sz s
  by_cases h : runL s.data.toList = s.size
  · rw [decide_eq_true h]
    have : s.extract 0 (runL s.data.toList) = s := data_inj (by rw [cut_ls, h, ← bytes_size, List.take_length])
    rw [this]; exact beq_self_eq_true _
  · rw [decide_eq_false h]
    refine beq_eq_false_iff_ne.2 fun e => h ?_
    have := bytes_inj e
    rw [this] at hsz
    exact hsz.symm
theorem ret_bool {a b : Bool} (h : b = a) : Ending.returned (.bool a) = Ending.returned (.bool b) := by rw [h]
set_option maxRecDepth 100000 in
set_option maxHeartbeats 3200000 in
theorem name_any (s : ByteArray) (hs : s.size ≤ 140737488355328) (w : World) (hT : TT w) :
    Calls Tryd.prog 18 #[.string s] w fun e w' => e = .returned (.bool (nameM s.data.toList)) ∧ Below w.heap.size w w' := by
  have HT := Lib.hid hT
  clear hT
  by_cases h0 : s.size = 0
  · have hN : nameM s.data.toList = false := by
      have : s.data.toList = [] := List.eq_nil_of_length_eq_zero (by rw [bytes_size]; exact h0)
      rw [this]; rfl
    rw [hN]
    have k1 := toList_nil h0
    have k2 := isEmpty_nil h0
    clear hN
    go_enter Tryd.func18, Tryd.ntmps18
    go_wp2_with (with_reducible refine wpList_box (o := ⟨some 1, .box 9 (.tmp 0), _, _, _, _⟩) ?g1nanil 9 (.tmp 0) ?o1nanil (.string s) [.string s] ?x1nanil ?c1nanil ?_)
    try (case g1nanil => rfl)
    try (case o1nanil => rfl)
    try (case x1nanil => rfl)
    try (case c1nanil => rfl)
    intro g1 w1 hg1 hs1 hb1 B1
    have hl1 : w.heap.size ≤ g1 := Nat.le_of_eq hg1.out.symm
    have hb1 := hb1.mono (Nat.le_of_eq hg1.out.symm)
    have hbe : Below w.heap.size w w1 := hb1
    clear hb1 hg1 hs1
    have z1_0 := B1.cell (k := 0) rfl
    go_wp2
    go_ret
    exact ⟨rfl, hbe⟩
  · have hpos : 0 < s.size := by omega
    have k1 := toList_ne hpos
    have k2 := isEmpty_ne hpos
    have hposi : (0 : Int) < (s.size : Int) := by omega
    have hN := nameM_eq s hpos
    have HK := fun w hT => kind_any s w hT
    have HR := fun g w hg => lead_nb1 s g hs w hg
    have heq := eq_run s
    obtain ⟨b, hb⟩ : ∃ b, s[0]'hpos = b := ⟨_, rfl⟩
    rw [hb] at hN
    rw [hN]
    have HL := fun w => letter_any b w
    obtain ⟨p, hp⟩ : ∃ p, lo b = p := ⟨_, rfl⟩
    rw [hp] at HL ⊢
    obtain ⟨K, hK⟩ : ∃ K, kindM s.data.toList = K := ⟨_, rfl⟩
    rw [hK] at HK ⊢
    obtain ⟨R, hR⟩ : ∃ R, s.extract 0 (runL s.data.toList) = R := ⟨_, rfl⟩
    rw [hR] at HR heq
    rw [← heq]
    obtain ⟨q, hq⟩ : ∃ q, (R.toList == s.toList) = q := ⟨_, rfl⟩
    rw [hq]
    have HEQ := Lib.hid hq
    clear hN hK hR heq hp
    cases p
    · skip
      go_enter Tryd.func18, Tryd.ntmps18
      go_wp2_with (with_reducible refine wpList_box (o := ⟨some 1, .box 9 (.tmp 0), _, _, _, _⟩) ?g1nanolo 9 (.tmp 0) ?o1nanolo (.string s) [.string s] ?x1nanolo ?c1nanolo ?_)
      try (case g1nanolo => rfl)
      try (case o1nanolo => rfl)
      try (case x1nanolo => rfl)
      try (case c1nanolo => rfl)
      intro g1 w1 hg1 hs1 hb1 B1
      have hl1 : w.heap.size ≤ g1 := Nat.le_of_eq hg1.out.symm
      have hb1 := hb1.mono (Nat.le_of_eq hg1.out.symm)
      have hbe : Below w.heap.size w w1 := hb1
      clear hb1 hg1 hs1
      have z1_0 := B1.cell (k := 0) rfl
      go_wp2_with fail
      (with_reducible refine (HL _).mono ?_)
      rintro e w2 ⟨rfl, hb2⟩
      clear z1_0
      have B1 := B1.next hb2 B1.lt
      have hbe := below_join hbe hb2
      clear hb2
      have z1_0 := B1.cell (k := 0) rfl
      go_wp2
      go_ret
      exact ⟨rfl, hbe⟩
    · by_cases hk : K = 1
      · have hki : ((K : Int) != 1) = false := by rw [hk]; rfl
        rw [decide_eq_true hk]
        clear hk
        go_enter Tryd.func18, Tryd.ntmps18
        go_wp2_with (with_reducible refine wpList_box (o := ⟨some 1, .box 9 (.tmp 0), _, _, _, _⟩) ?g1narun 9 (.tmp 0) ?o1narun (.string s) [.string s] ?x1narun ?c1narun ?_)
        try (case g1narun => rfl)
        try (case o1narun => rfl)
        try (case x1narun => rfl)
        try (case c1narun => rfl)
        intro g1 w1 hg1 hs1 hb1 B1
        have hl1 : w.heap.size ≤ g1 := Nat.le_of_eq hg1.out.symm
        have hb1 := hb1.mono (Nat.le_of_eq hg1.out.symm)
        have hbe : Below w.heap.size w w1 := hb1
        clear hb1 hg1 hs1
        have z1_0 := B1.cell (k := 0) rfl
        go_wp2_with fail
        (with_reducible refine (HL _).mono ?_)
        rintro e w2 ⟨rfl, hb2⟩
        clear z1_0
        have B1 := B1.next hb2 B1.lt
        have hbe := below_join hbe hb2
        clear hb2
        have z1_0 := B1.cell (k := 0) rfl
        go_wp2_with fail
        (with_reducible refine (HK _ (HT.out.next hbe)).mono ?_)
        rintro e w3 ⟨rfl, hb3⟩
        clear z1_0
        have B1 := B1.next hb3 B1.lt
        have hbe := below_join hbe hb3
        clear hb3
        have z1_0 := B1.cell (k := 0) rfl
        go_wp2
        clear z1_0
        have hdd := below_drew w3
        have B1 := B1.next hdd B1.lt
        have hbe := below_join hbe hdd
        refine wp_region_held_drew (S := fun w' => w'.cell? ⟨g1, 0, none⟩ = some (.string s)) (by kernel_rfl) (B1.cell (k := 0) rfl) (fun hHeld => ?_)
        clear hdd
        generalize w3.drew = w4 at B1 hbe hHeld  ⊢
        refine wpAnyH_take (i := 0) (v := ?vqaa0) rfl (by kernel_rfl) (by kernel_rfl) (by kernel_rfl) (fun _ _ _ h => h) (Or.inl ⟨by rfl, ?yqaa0⟩) (by assumption) ?rqaa0
        case yqaa0 => intro w hSw; have hSc := hSw; go_simp <;> (try with_reducible rfl)
        (try simp only [List.getElem_toArray, List.getElem_cons_zero, Act.put, List.setIfInBounds_toArray, List.set_cons_zero, List.set_cons_succ])
        refine wpAnyH_take (i := 1) (v := ?vqaa1) rfl (by kernel_rfl) (by kernel_rfl) (by kernel_rfl) (fun _ _ _ h => h) (Or.inl ⟨by rfl, ?yqaa1⟩) (by assumption) ?rqaa1
        case yqaa1 => intro w hSw; (try dsimp only at hSw); go_simp <;> (try with_reducible rfl)
        (try simp only [List.getElem_toArray, List.getElem_cons_succ, List.getElem_cons_zero, Act.put, List.setIfInBounds_toArray, List.set_cons_zero, List.set_cons_succ])
        refine wpAnyH_take (i := 3) (v := ?vqaa3) rfl (by kernel_rfl) (by kernel_rfl) (by kernel_rfl) (fun _ _ _ h => h) (Or.inl ⟨by rfl, ?yqaa3⟩) (by assumption) ?rqaa3
        case yqaa3 => intro w hSw; have hSc := hSw; go_simp <;> (try with_reducible rfl)
        (try simp only [List.getElem_toArray, List.getElem_cons_succ, List.getElem_cons_zero, Act.put, List.setIfInBounds_toArray, List.set_cons_zero, List.set_cons_succ])
        refine wpAnyH_ready (rs := [2]) (by kernel_rfl) (by simp) ?_
        refine AllReadyH.cons rfl (fun K hK => ?_) AllReadyH.nil
        go_simp
        go_wp2_with fail
        (with_reducible refine (HR g1 _ (B1.cell (k := 0) rfl)).mono ?_)
        rintro e w5 ⟨rfl, hb5⟩
        have B1 := B1.next hb5 B1.lt
        have hbe := below_join hbe hb5
        refine hK.out _ _ (B1.cell (k := 0) rfl) (fun hHeld => ?_)
        clear hK K hb5
        refine wpAnyH_take (i := 4) (v := ?vqaa4) rfl (by kernel_rfl) (by kernel_rfl) (by kernel_rfl) (fun _ _ _ h => h) (Or.inl ⟨by rfl, ?yqaa4⟩) (by assumption) ?rqaa4
        case yqaa4 => intro w hSw; (try dsimp only at hSw); go_simp <;> (try with_reducible rfl)
        (try simp only [List.getElem_toArray, List.getElem_cons_succ, List.getElem_cons_zero, Act.put, List.setIfInBounds_toArray, List.set_cons_zero, List.set_cons_succ])
        refine wpAnyH_take (i := 5) (v := ?vqaa5) rfl (by kernel_rfl) (by kernel_rfl) (by kernel_rfl) (fun _ _ _ h => h) (Or.inl ⟨by rfl, ?yqaa5⟩) (by assumption) ?rqaa5
        case yqaa5 => intro w hSw; (try dsimp only at hSw); go_simp <;> (try with_reducible rfl)
        (try simp only [List.getElem_toArray, List.getElem_cons_succ, List.getElem_cons_zero, Act.put, List.setIfInBounds_toArray, List.set_cons_zero, List.set_cons_succ])
        refine wpAnyH_done (by kernel_rfl) ?_ _
        clear hHeld 
        go_wp2
        go_ret
        exact ⟨ret_bool (by rw [← HEQ.out]; rfl), hbe⟩
      · have hki : ((K : Int) != 1) = true := bne_iff_ne.2 (by omega)
        rw [decide_eq_false hk]
        clear hk
        go_enter Tryd.func18, Tryd.ntmps18
        go_wp2_with (with_reducible refine wpList_box (o := ⟨some 1, .box 9 (.tmp 0), _, _, _, _⟩) ?g1nanokind 9 (.tmp 0) ?o1nanokind (.string s) [.string s] ?x1nanokind ?c1nanokind ?_)
        try (case g1nanokind => rfl)
        try (case o1nanokind => rfl)
        try (case x1nanokind => rfl)
        try (case c1nanokind => rfl)
        intro g1 w1 hg1 hs1 hb1 B1
        have hl1 : w.heap.size ≤ g1 := Nat.le_of_eq hg1.out.symm
        have hb1 := hb1.mono (Nat.le_of_eq hg1.out.symm)
        have hbe : Below w.heap.size w w1 := hb1
        clear hb1 hg1 hs1
        have z1_0 := B1.cell (k := 0) rfl
        go_wp2_with fail
        (with_reducible refine (HL _).mono ?_)
        rintro e w2 ⟨rfl, hb2⟩
        clear z1_0
        have B1 := B1.next hb2 B1.lt
        have hbe := below_join hbe hb2
        clear hb2
        have z1_0 := B1.cell (k := 0) rfl
        go_wp2_with fail
        (with_reducible refine (HK _ (HT.out.next hbe)).mono ?_)
        rintro e w3 ⟨rfl, hb3⟩
        clear z1_0
        have B1 := B1.next hb3 B1.lt
        have hbe := below_join hbe hb3
        clear hb3
        have z1_0 := B1.cell (k := 0) rfl
        go_wp2
        go_ret
        exact ⟨rfl, hbe⟩
end Go.Proofs.YtlpocfojgibhjaaDoor

/-
  Contract of the walk over Join of the program. Conditions: few tokens; texts that fit into memory.
-/
namespace Go.Proofs.YtlpocfojgibhjaaDoor
set_option linter.unusedVariables false
set_option linter.unusedSimpArgs false
open Go.RowKit Go.Shelf

def joinTs (l : List Tok) : List Tok := l.filter fun t => decide (t.kind ≠ 6)
def joinM (l : List Tok) : List UInt8 := Lib.join ((joinTs l).map (·.text)) [32]
def sVs (l : List Tok) : List Value := (joinTs l).map fun t => .string (tB t)
theorem run_sl1 (w : World) (s : ByteArray) : (Instr.buildSlice 30 1 #[(0, .string s)]).run Tryd.prog w = .ok (.slice (some ⟨w.heap.size, 0, none⟩) 1 1) (w.alloc (.cells [Value.string s].toArray 9)) := by kernel_rfl
theorem wpList_sl1 {ops : Array Oper} {rest : List Oper} {o : Oper} {a : Act} {w : World} {Q : Exit → Act → World → Prop} (hgd : o.guard = none) (x : Operand) (ho : o.op = .buildSlice 30 1 #[(0, x)]) (s : ByteArray) (hx : a.eval x = .string s)
    (h : ∀ g w', Hid (g = w.heap.size) → Below w.heap.size w w' → Blk w' g 9 [Value.string s] → wpList Tryd.prog ops Q rest (a.put o.dst (.slice (some ⟨g, 0, none⟩) 1 1)) w') : wpList Tryd.prog ops Q (o :: rest) a w := by
  refine wpList_plain hgd fun K hK => ?_
  have hr := run_sl1 w s
  unfold Oper.wp execOp
  simp only [ho, List.map_toArray, List.map_cons, List.map_nil, hx, Sem.run_bind, Sem.run_pure, Result.andThen_ok, hr]
  exact hK _ _ (h _ _ rfl (below_new w _) (blk_new w _ _))
theorem infoStr : ∃ i, Tryd.prog.info? 9 = some i ∧ i.zero = some (.string ByteArray.empty) ∧ i.size = 1 ∧ i.bytes = 16 := by
  have h : (Tryd.prog.info? 9).map (fun i => (i.zero, i.size, i.bytes)) = some (some (.string ByteArray.empty), 1, 16) := by kernel_rfl
  cases hq : Tryd.prog.info? 9 with
  | none => simp [hq] at h
  | some i =>
    simp [hq] at h
    exact ⟨i, rfl, h.1, h.2.1, h.2.2⟩
/-- append of one text. -/
theorem wpList_appS {ops : Array Oper} {rest : List Oper} {o : Oper} {a : Act} {w : World} {Q : Exit → Act → World → Prop} (hgd : o.guard = none) (s x : Operand)
    (ho : o.op = .call { callee := .builtin .append, args := #[s, x], argTypes := #[30, 30] }) (base : Nat) (v : Value) (n : Nat) (xs : List Value) (hs : a.eval s = v) (hown : w.ownsRow base 9 1 v n xs)
    (g : Nat) (u : Value) (hx : a.eval x = .slice (some ⟨g, 0, none⟩) 1 1) (hg : Blk w g 9 [u]) (h1 : u.oneCell' = true) (hn : n ≤ 1000000) (hbase : base ≤ w.heap.size)
    (h : ∀ v' w', w'.ownsRow base 9 1 v' (n + 1) (xs ++ [u]) → w.grownBy w' v.ownBlock → wpList Tryd.prog ops Q rest (a.put o.dst v') w') : wpList Tryd.prog ops Q (o :: rest) a w := by
  refine wpList_plain hgd fun K hK => ?_
  obtain ⟨i, i1, i2, i3, i4⟩ := infoStr
  obtain ⟨v', w', hr, r1, r2, _⟩ := run_append_own (P := Tryd.prog) w base 30 o.type 9 i _ 1 16 Tryd.underlying30 i1 i2 i3 i4 rfl (by decide) v n xs hown ⟨g, 0, none⟩ 1 1 [u] rfl (fun j y hy => by
    rw [addr_mid, Nat.zero_add]
    exact hg.cell hy) (one_cell1 h1) (by show n + 1 ≤ maxLen; unfold maxLen; omega) (by omega) hbase
  unfold Oper.wp
  simp [execOp, ho, resolve, invoke, builtin, hs, hx, hr, Result.andThen]
  exact hK _ _ (h v' w' r1 r2)
theorem sVs_length (l : List Tok) : (sVs l).length = (joinTs l).length := by unfold sVs; rw [List.length_map]
theorem join_next {l : List Tok} {k : Nat} {t : Tok} (h : l[k]? = some t) : joinTs (l.take (k + 1)) = joinTs (l.take k) ++ (if t.kind = 6 then [] else [t]) := by
  have hl := (List.getElem?_eq_some_iff.1 h).1
  have e := (List.getElem?_eq_some_iff.1 h).2
  rw [← List.take_append_getElem hl, e]
  unfold joinTs
  rw [List.filter_append]
  congr 1
  by_cases h6 : t.kind = 6
  · rw [if_pos h6]; simp [h6]
  · rw [if_neg h6]; simp [h6]
def JnRel (l : List Tok) (w : World) (i v : Value) (wr : World) : Prop :=
  ∃ (k m : Nat), k ≤ l.length ∧ m ≤ k ∧ (joinTs (l.take k)).length = m ∧ i = .int .i64 (k : Int) ∧ wr.ownsRow w.heap.size 9 1 v m (sVs (l.take k)) ∧ Below w.heap.size w wr
theorem strs_own {w : World} {T n c : Nat} {A : Option Addr} {xs : List Value} (h : w.ownsRow T 9 1 (.slice A n c) n xs) : (A = none ∧ n = 0) ∨ ∃ g, A = some ⟨g, 0, none⟩ ∧ g < w.heap.size ∧ n ≤ c ∧ ∀ j u, xs[j]? = some u → w.cell? ⟨g, 0 + j, none⟩ = some u := by
  rcases h.2 with ⟨h1, h0⟩ | ⟨g, cap, cur, hv, hb, h3, hnc, _, hsz, htk⟩
  · injection h1 with hA
    exact Or.inl ⟨hA, h0⟩
  · injection hv with hA _ hc
    subst hc
    refine Or.inr ⟨g, hA, (Array.getElem?_eq_some_iff.1 h3).1, hnc, fun j u hu => ?_⟩
    rw [cell_of_row w g _ cur 9 (0, 0) h3, ← Array.getElem?_toList, Nat.zero_add]
    rw [← htk, List.getElem?_take] at hu
    split at hu
    · exact hu
    · cases hu
theorem join_lib (A : Option Addr) (c : Nat) (ts : List Tok) (T : Nat) (w : World) (h : w.ownsRow T 9 1 (.slice A ts.length c) ts.length (ts.map fun t => .string (tB t))) (hN : ts.length ≤ 1000000) (hlen : (Lib.join (ts.map (·.text)) [32]).length ≤ 140737488355328) :
    Calls Tryd.prog 13 #[.slice A ts.length c, .string { data := #[32] }] w fun e w' => e = .returned (.string ⟨(Lib.join (ts.map (·.text)) [32]).toArray⟩) ∧ Below w.heap.size w w' := by
  rcases strs_own h with ⟨rfl, h0⟩ | ⟨g, rfl, hg, hc, hcell⟩
  · have : ts = [] := List.eq_nil_of_length_eq_zero h0
    subst this
    refine Calls.mono (Any.strings_Join_none Tryd.joinA Tryd.joinX none c { data := #[32] } w) ?_
    rintro e w' ⟨rfl, rfl⟩
    exact ⟨rfl, Below.refl _ _⟩
  · have e1 : ((ts.map tB).map (·.data.toList)) = ts.map (·.text) := by
      rw [List.map_map]
      rfl
    have h2 := Any.strings_Join Tryd.joinA Tryd.joinX g 0 c (ts.map tB) { data := #[32] } w (fun j x hx => by
      refine hcell j _ ?_
      rw [List.getElem?_map] at hx ⊢
      cases ht : ts[j]? with
      | none => rw [ht] at hx; cases hx
      | some t => rw [ht] at hx; injection hx with hx; rw [← hx]; rfl) hg (by rw [List.length_map]; omega) (by rw [List.length_map]; exact hc) (by rw [e1]; exact hlen)
    rw [List.length_map, e1] at h2
    exact h2
set_option maxRecDepth 100000 in
set_option maxHeartbeats 3200000 in
theorem join_any (A : Option Addr) (c : Nat) (l : List Tok) (w : World) (hN : l.length ≤ 100000) (hA : TksAt w A l) (hlen : (joinM l).length ≤ 140737488355328) :
    Calls Tryd.prog 11 #[.slice A l.length c] w fun e w' => e = .returned (.string ⟨(joinM l).toArray⟩) ∧ Below w.heap.size w w' := by
  obtain ⟨n, hn⟩ : ∃ n, Hid (l.length = n) := ⟨_, rfl⟩
  rw [hn.out] at hN ⊢
  have HA := Lib.hid hA
  have HJ := fun A c T w h hN => join_lib A c (joinTs l) T w h hN hlen
  obtain ⟨J, hJ⟩ : ∃ J, (⟨(joinM l).toArray⟩ : ByteArray) = J := ⟨_, rfl⟩
  rw [show (⟨(Lib.join ((joinTs l).map (·.text)) [32]).toArray⟩ : ByteArray) = J from hJ] at HJ
  rw [hJ]
  clear hA hlen hJ
  have hni : (n : Int) ≤ 100000 := by omega
  go_enter Tryd.func11, Tryd.ntmps11
  go_wp2
  go_loopw [8, 3] (JnRel l w) (fun i _ _ => n - (intOf i).toNat)
  case atStart => exact ⟨0, 0, Nat.zero_le _, Nat.le_refl _, rfl, rfl, World.ownsRow_nil _ _ _ _, Below.refl _ _⟩
  case round =>
    obtain ⟨k, m, hk, hmk, hm, rfl, Ov, hbe⟩ := hrel
    rw [hn.out] at hk
    have HM := Lib.hid hm
    clear hm
    by_cases hlt : k < n
    · have hki : (k : Int) < (n : Int) := by omega
      have hk0 : (0 : Int) ≤ (k : Int) := by omega
      obtain ⟨t, ht⟩ : ∃ t, l[k]? = some t := ⟨_, List.getElem?_eq_getElem (by rw [hn.out]; exact hlt)⟩
      obtain ⟨ga, oa, hAe, hc⟩ := (HA.out.next hbe) k t ht
      subst hAe
      have c0 : wr.cell? ⟨ga, oa + k * 5, none⟩ = some (.int .i64 (t.kind : Int)) := hc 0 _ rfl
      have c1 : wr.cell? ⟨ga, oa + k * 5 + 1, none⟩ = some (.int .i64 (t.n : Int)) := hc 1 _ rfl
      have c2 : wr.cell? ⟨ga, oa + k * 5 + 2, none⟩ = some (.string (tB t)) := hc 2 _ rfl
      have c3 : wr.cell? ⟨ga, oa + k * 5 + 3, none⟩ = some (.int .i64 (t.line : Int)) := hc 3 _ rfl
      have c4 : wr.cell? ⟨ga, oa + k * 5 + 4, none⟩ = some (.int .i64 (t.col : Int)) := hc 4 _ rfl
      have HNX := Lib.hid (join_next ht)
      have HTT : Hid (tB t = tB t) := rfl
      obtain ⟨X, hX⟩ : ∃ X, Hid (tB t = X) := ⟨_, rfl⟩
      rw [hX.out] at c2
      clear hc ht HTT
      by_cases h6 : t.kind = 6
      · skip
        have h6i : ((t.kind : Int) != 6) = false := by rw [h6]; rfl
        have hnx : Hid (joinTs (l.take (k + 1)) = joinTs (l.take k)) := by
          have : joinTs (l.take (k + 1)) = joinTs (l.take k) := by rw [HNX.out, if_pos h6, List.append_nil]
          exact this
        obtain ⟨K, hK⟩ : ∃ K, t.kind = K := ⟨_, rfl⟩
        obtain ⟨N1, hN1⟩ : ∃ K, t.n = K := ⟨_, rfl⟩
        obtain ⟨L1, hL1⟩ : ∃ K, t.line = K := ⟨_, rfl⟩
        obtain ⟨C1, hC1⟩ : ∃ K, t.col = K := ⟨_, rfl⟩
        rw [hK] at c0 h6i
        rw [hN1] at c1
        rw [hL1] at c3
        rw [hC1] at c4
        clear hK hN1 hL1 hC1 h6 HNX
        go_wp2_with (with_reducible refine wpList_alloc (o := ⟨some 5, .alloc 37, _, _, _, _⟩) (by with_unfolding_all rfl) 37 (by with_unfolding_all rfl) (.agg #[.int .i64 0, .int .i64 0, .string ByteArray.empty, .int .i64 0, .int .i64 0]) [Value.int .i64 0, .int .i64 0, .string ByteArray.empty, .int .i64 0, .int .i64 0] (by exact Tryd.zeroTok) (by with_unfolding_all rfl) ?_)
        intro g5 w11 hg5 hs11 hb11 B5
        have onOv_5 : ∀ q, Value.ownBlock u3 = some q → q ≠ g5 := fun q hq e => by have := (own_base Ov q hq).2; have := hg5.out; omega
        have hl5 : w.heap.size ≤ g5 := Nat.le_trans hbe.size (Nat.le_of_eq hg5.out.symm)
        have hb11 := hb11.mono (Nat.le_of_eq hg5.out.symm)
        have Ov := own_next Ov hb11
        have hbe := below_join hbe hb11
        clear hb11 hg5 hs11
        go_wp2_with (with_reducible refine wpList_put (o := ⟨none, .store 37 (.tmp 5) (.tmp 11), _, _, _, _⟩) (by with_unfolding_all rfl) 37 (.tmp 5) (.tmp 11) (by with_unfolding_all rfl) g5 0 (by with_unfolding_all rfl) (.agg #[.int .i64 (K : Int), .int .i64 (N1 : Int), .string X, .int .i64 (L1 : Int), .int .i64 (C1 : Int)]) (by with_unfolding_all rfl) B5 [Value.int .i64 (K : Int), .int .i64 (N1 : Int), .string X, .int .i64 (L1 : Int), .int .i64 (C1 : Int)] (by with_unfolding_all rfl) (by with_unfolding_all (exact Tryd.szTok)) (by with_unfolding_all (exact Nat.le_refl 5)) (by with_unfolding_all (exact tok_one _ _ _ _ _)) ?_)
        intro w12 hu12 C5
        rw [splice_all _ _ (by rfl)] at C5
        have Ov := own_keep Ov (fun q hq => hu12.block q (onOv_5 q hq))
        have hbe := hbe.trans (hu12.below (B := w.heap.size) hl5)
        clear B5 hu12
        have B5 := C5
        clear C5
        have z5_0 := B5.cell (k := 0) rfl
        have z5_2 := B5.cell (k := 2) rfl
        go_wp2
        go_roundw
        case rel => exact ⟨k + 1, m, by rw [hn.out]; omega, by omega, by rw [hnx.out]; exact HM.out, by go_num, by unfold sVs; rw [hnx.out]; exact Ov, hbe⟩
        case measure => simp [intOf]; omega
      · skip
        have h6i : ((t.kind : Int) != 6) = true := bne_iff_ne.2 (by omega)
        have hnx : Hid (joinTs (l.take (k + 1)) = joinTs (l.take k) ++ [t]) := by
          have : joinTs (l.take (k + 1)) = joinTs (l.take k) ++ [t] := by rw [HNX.out, if_neg h6]
          exact this
        obtain ⟨K, hK⟩ : ∃ K, t.kind = K := ⟨_, rfl⟩
        obtain ⟨N1, hN1⟩ : ∃ K, t.n = K := ⟨_, rfl⟩
        obtain ⟨L1, hL1⟩ : ∃ K, t.line = K := ⟨_, rfl⟩
        obtain ⟨C1, hC1⟩ : ∃ K, t.col = K := ⟨_, rfl⟩
        rw [hK] at c0 h6i
        rw [hN1] at c1
        rw [hL1] at c3
        rw [hC1] at c4
        clear hK hN1 hL1 hC1 h6 HNX
        go_wp2_with (with_reducible refine wpList_alloc (o := ⟨some 5, .alloc 37, _, _, _, _⟩) (by with_unfolding_all rfl) 37 (by with_unfolding_all rfl) (.agg #[.int .i64 0, .int .i64 0, .string ByteArray.empty, .int .i64 0, .int .i64 0]) [Value.int .i64 0, .int .i64 0, .string ByteArray.empty, .int .i64 0, .int .i64 0] (by exact Tryd.zeroTok) (by with_unfolding_all rfl) ?_)
        intro g5 w11 hg5 hs11 hb11 B5
        have onOv_5 : ∀ q, Value.ownBlock u3 = some q → q ≠ g5 := fun q hq e => by have := (own_base Ov q hq).2; have := hg5.out; omega
        have hl5 : w.heap.size ≤ g5 := Nat.le_trans hbe.size (Nat.le_of_eq hg5.out.symm)
        have hb11 := hb11.mono (Nat.le_of_eq hg5.out.symm)
        have Ov := own_next Ov hb11
        have hbe := below_join hbe hb11
        clear hb11 hg5 hs11
        go_wp2_with (with_reducible refine wpList_put (o := ⟨none, .store 37 (.tmp 5) (.tmp 11), _, _, _, _⟩) (by with_unfolding_all rfl) 37 (.tmp 5) (.tmp 11) (by with_unfolding_all rfl) g5 0 (by with_unfolding_all rfl) (.agg #[.int .i64 (K : Int), .int .i64 (N1 : Int), .string X, .int .i64 (L1 : Int), .int .i64 (C1 : Int)]) (by with_unfolding_all rfl) B5 [Value.int .i64 (K : Int), .int .i64 (N1 : Int), .string X, .int .i64 (L1 : Int), .int .i64 (C1 : Int)] (by with_unfolding_all rfl) (by with_unfolding_all (exact Tryd.szTok)) (by with_unfolding_all (exact Nat.le_refl 5)) (by with_unfolding_all (exact tok_one _ _ _ _ _)) ?_)
        intro w12 hu12 C5
        rw [splice_all _ _ (by rfl)] at C5
        have Ov := own_keep Ov (fun q hq => hu12.block q (onOv_5 q hq))
        have hbe := hbe.trans (hu12.below (B := w.heap.size) hl5)
        clear B5 hu12
        have B5 := C5
        clear C5
        have z5_0 := B5.cell (k := 0) rfl
        have z5_2 := B5.cell (k := 2) rfl
        go_wp2_with (with_reducible refine wpList_sl1 (o := ⟨some 18, .buildSlice 30 1 #[(0, .tmp 17)], _, _, _, _⟩) (by with_unfolding_all rfl) (.tmp 17) (by with_unfolding_all rfl) X (by with_unfolding_all rfl) ?_)
        intro gr w13 hgr hb13 Br
        clear z5_0 z5_2
        have Ov := own_next Ov hb13
        have B5 := B5.next hb13 B5.lt
        have hbe := below_join hbe hb13
        clear hgr
        have hT0 : w.heap.size ≤ w13.heap.size := hbe.size
        have HON := Lib.hid (own_base Ov)
        go_wp2_with (with_reducible refine wpList_appS (o := ⟨some 19, .call ⟨.builtin .append, #[.tmp 15, .tmp 18], #[30, 30]⟩, _, _, _, _⟩) (by with_unfolding_all rfl) (.tmp 15) (.tmp 18) (by with_unfolding_all rfl) w.heap.size u3 m (sVs (l.take k)) (by with_unfolding_all rfl) Ov gr (.string X) (by with_unfolding_all rfl) Br rfl (by omega) hT0 ?_)
        intro v14 w14 Ow hgw
        have hbx := below_grown hgw (fun q hq => (HON.out q hq).1) hT0
        have hbe := hbe.trans hbx
        clear hbx hgw Br Ov HON hT0 B5
        go_wp2
        go_roundw
        case rel => exact ⟨k + 1, m + 1, by rw [hn.out]; omega, by omega, by rw [hnx.out, List.length_append, HM.out]; rfl, by go_num, by unfold sVs; rw [hnx.out, List.map_append, List.map_cons, List.map_nil, hX.out]; exact Ow, hbe⟩
        case measure => simp [intOf]; omega
    · have hkn : k = n := by omega
      subst hkn
      have htk : l.take k = l := by rw [← hn.out]; exact List.take_length
      rw [htk] at Ov HM
      obtain ⟨A3, c3, hv, _⟩ := own_shape Ov
      subst hv
      have hm2 := HM.out
      subst hm2
      have HJ2 := HJ A3 c3 _ _ Ov (by omega)
      clear Ov htk
      go_wp2_with fail
      (with_reducible refine HJ2.mono ?_)
      rintro e w2 ⟨rfl, hb2⟩
      have hbe := below_join hbe hb2
      go_wp2
      go_ret
      exact ⟨rfl, hbe⟩
end Go.Proofs.YtlpocfojgibhjaaDoor
