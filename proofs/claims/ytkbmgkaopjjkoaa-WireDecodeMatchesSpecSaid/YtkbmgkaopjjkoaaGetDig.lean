/-
  Contracts of the walks over chapter 1's decoding of digests: wire.getDigest, wire.getList[api.Digest], wire.GetDigests. Conditions: at most 10^9 bytes.
-/
import Derived.Test.YtkbmgkaopjjkoaaDig
import Derived.Laws.Cover3
namespace Go.Proofs.Ytkbmgkaopjjkoaa
open Go.RowKit

theorem results_cell3 {fn : Func} {p q r : Tmp} (h : fn.results = #[.cell p 57, .tmp q, .tmp r]) (tmps : Array Value) (w : World) (a0 : Addr) (l : List Value) (hp : tmps.getD p undef = .pointer (some a0))
    (hl : l.length = 16) (hc : ∀ j u, l[j]? = some u → w.cell? (a0.add j) = some u) :
    (results fn tmps).run Try.prog w = .ok (.tuple #[.agg l.toArray, tmps.getD q undef, tmps.getD r undef]) w := by
  have hrun := run_load57 w a0 l hl hc
  have hp' : tmps[p]?.getD undef = .pointer (some a0) := by simpa using hp
  simp [results, h, hp', asAddr, hrun]

set_option maxRecDepth 100000 in
set_option maxHeartbeats 800000 in
theorem getDigest_any (ad : Addr) (n cap : Nat) (d : List UInt8) (w : World) (hd : d.length = 16) (hn : 16 ≤ n) (hc : n ≤ cap) (hh : ∀ j u, (d.map B8)[j]? = some u → w.cell? (ad.add j) = some u) :
    Calls Try.prog 50 #[.slice (some ad) n cap] w fun e w' => e = .returned (.tuple #[digV d, .int .i64 16, .int .i64 0]) ∧ w.alloc (.cells (d.map B8).toArray 57) = w' := by
  have HH := Lib.hid hh
  have hdl : (d.map B8).length = 16 := by rw [List.length_map]; exact hd
  have HD := Lib.hid hdl
  have HD2 := Lib.hid hd
  clear hh hd hdl
  have hat : ∀ W, (Instr.arrayAt 57 (.slice (some ad) 16 cap)).run Try.prog W = .ok (.pointer (some ad)) W := fun W => run_arrayAt W 57 _ 16 _ 16 cap Try.underlying57 (Nat.le_refl _)
  go_enter Try.func50, Try.ntmps50
  go_wp2_with (first | (with_reducible refine wpList_load57 (o := ⟨some 8, _, _, _, _, _⟩) ?g1 (.tmp 7) ?o1 ad ?x1 (d.map B8) ?l1 ?c1 ?_) | (with_reducible refine wpList_new57 (o := ⟨none, .store 57 (.tmp 2) (.tmp 8), _, _, _, _⟩) ?g2 (.tmp 2) (.tmp 8) ?o2 _ (d.map B8).toArray ?x2 ?y2 ?l2 ?l3 (B8_all d) ?_))
  case g1 => rfl
  case o1 => rfl
  case x1 => rfl
  case l1 => exact HD.out
  case c1 => exact fun j u hu => Keeps.of ((Below.refl _ _).alloc (Nat.le_refl _) _) _ _ (HH.out j u hu)
  case g2 => rfl
  case o2 => rfl
  case l2 => rfl
  case l3 => simpa using HD.out
  refine bodyPost_ret (results_cell3 rfl _ _ ⟨w.heap.size, 0, none⟩ (d.map B8) rfl HD.out (fun j u hu => block_cells rfl hu)) rfl ?_
  exact ⟨rfl, rfl⟩

/-- A digest stored into a row of the call's own. -/
theorem own_store16 {P : Program} {W : World} {base n cap g : Nat} {E : TypeId} {xs : List Value} (h : W.ownsRow base E 16 (.slice (some ⟨g, 0, none⟩) n cap) n xs) (k : Nat) (hk : k < n) (vs : List Value) (hv : vs.length = 16) (h1 : ∀ v ∈ vs, v.oneCell' = true) :
    ∃ W', (storeCells ⟨g, k * 16, none⟩ vs).run P W = .ok () W' ∧ W'.ownsRow base E 16 (.slice (some ⟨g, 0, none⟩) n cap) n (xs.take (k * 16) ++ vs ++ xs.drop (k * 16 + 16)) ∧ W.grownBy W' (some g) := by
  have hxl := h.1
  rcases h.2 with ⟨h0, _⟩ | ⟨g', cap', cur, hv', hb, hg, hnc, hcm, hcs, htake⟩
  · cases h0
  · cases hv'
    have hst := run_storeCells_at P g (k * 16) E vs 0 cur W hg (by omega) h1
    simp only [Nat.add_zero] at hst
    refine ⟨_, hst, ⟨by simp [hxl, hv]; omega, .inr ⟨g, cap, _, rfl, hb, setRow_heap W g cur _ E _ hg, hnc, hcm, ?_, ?_⟩⟩, ⟨rfl, rfl, rfl, by simp, fun j _ hj => setRow_other W g j _ (fun e => hj (by rw [e]))⟩⟩
    · simp [hv]; omega
    · have hcl : cur.toList.length = cap * 16 := by simpa using hcs
      subst htake
      rw [hv]
      simp only [List.take_append, List.length_append, List.length_take, hv, hcl]
      rw [List.take_of_length_le (l := cur.toList.take (k * 16)) (by simp; omega), List.take_of_length_le (l := vs) (by simp; omega), List.take_take, List.drop_take,
        show min (k * 16) (n * 16) = k * 16 by omega, show n * 16 - (min (k * 16) (cap * 16) + 16) = n * 16 - (k * 16 + 16) by omega]

theorem wpList_own57 {ops : Array Oper} {rest : List Oper} {o : Oper} {a : Act} {W : World} {Q : Exit → Act → World → Prop} (hgd : o.guard = none) (x y : Operand) (ho : o.op = .store 57 x y)
    (base n cap g k : Nat) (xs vs : List Value) (hx : a.eval x = .pointer (some ⟨g, k * 16, none⟩)) (hy : a.eval y = .agg vs.toArray) (hown : W.ownsRow base 57 16 (.slice (some ⟨g, 0, none⟩) n cap) n xs) (hk : k < n) (hv : vs.length = 16) (h1 : ∀ v ∈ vs, v.oneCell' = true)
    (h : ∀ W', W'.ownsRow base 57 16 (.slice (some ⟨g, 0, none⟩) n cap) n (xs.take (k * 16) ++ vs ++ xs.drop (k * 16 + 16)) → W.grownBy W' (some g) → wpList Try.prog ops Q rest (a.put o.dst undef) W') : wpList Try.prog ops Q (o :: rest) a W := by
  refine wpList_plain hgd fun K hK => ?_
  obtain ⟨i0, hi, _, hz1, _⟩ := info_parts Try.info57
  obtain ⟨W', hst, r1, r2⟩ := own_store16 (P := Try.prog) hown k hk vs hv h1
  have hrun : (storeVar 57 ⟨g, k * 16, none⟩ (.agg vs.toArray)).run Try.prog W = .ok () W' := by
    simp [storeVar, sizeOf, typeInfo, hi, Value.cells, hz1, hv, hst]
  unfold Oper.wp execOp
  simp only [ho, hx, hy, Instr.storeAt, Instr.sureAddr, Sem.run_bind, Sem.run_pure, Result.andThen_ok, hrun]
  exact hK _ _ (h W' r1 r2)

theorem made_rep (m n : Nat) (v : Value) (hm : 0 < m) : (madeCells (List.replicate m v).toArray n).toList = List.replicate n v := by
  apply List.ext_getElem?
  intro j
  by_cases hj : j < n
  · have hjm : j % m < m := Nat.mod_lt _ hm
    simp only [madeCells, List.size_toArray, List.length_replicate, Array.toList_map, List.getElem?_map, Array.toList_range, List.getElem?_range hj, Option.map_some, List.getElem?_replicate, if_pos hj]
    simp [hjm]
  · rw [List.getElem?_eq_none (by simp [madeCells]; omega), List.getElem?_eq_none (by simp; omega)]

theorem digCells_length : ∀ (xs : List (List UInt8)), (∀ d ∈ xs, d.length = 16) → (digCells xs).length = xs.length * 16
  | [], _ => rfl
  | d :: xs, h => by
    have ih := digCells_length xs (fun x hx => h x (by simp [hx]))
    have hd := h d (by simp)
    simp only [digCells, List.flatMap_cons, List.length_append, List.length_map, hd, List.length_cons] at ih ⊢
    omega
theorem digCells_snoc (xs : List (List UInt8)) (d : List UInt8) : digCells (xs ++ [d]) = digCells xs ++ d.map B8 := by simp [digCells]
theorem next16 {acc : List (List UInt8)} {d : List UInt8} {n k : Nat} (ha : ∀ d ∈ acc, d.length = 16) (hk : acc.length = k) (hlt : k < n) :
    (digCells acc ++ List.replicate ((n - k) * 16) (Value.int .u8 0)).take (k * 16) ++ d.map B8 ++ (digCells acc ++ List.replicate ((n - k) * 16) (Value.int .u8 0)).drop (k * 16 + 16) = digCells (acc ++ [d]) ++ List.replicate ((n - (k + 1)) * 16) (Value.int .u8 0) := by
  have hl := digCells_length acc ha
  rw [hk] at hl
  rw [← hl, List.take_left, digCells_snoc, List.drop_append, Nat.add_sub_cancel_left, List.drop_of_length_le (by omega), List.nil_append, List.drop_replicate, show (n - k) * 16 - 16 = (n - (k + 1)) * 16 by omega]

/-- The result of the decoding of a list of digests. -/
def DigPost (r : List (List UInt8) × Nat × Int) (w : World) (e : Ending) (w' : World) : Prop :=
  ∃ v, e = .returned (.tuple #[v, .int .i64 (r.2.1 : Int), .int .i64 r.2.2]) ∧ w'.ownsRow w.heap.size 57 16 v r.1.length (digCells r.1) ∧ Below w.heap.size w w'
theorem DigPost.nil {r : List (List UInt8) × Nat × Int} {w w' : World} {x : Int} (h : r = ([], 0, x)) (hb : Below w.heap.size w w') {a b c : Value} (ha : a = .slice none 0 0) (hb' : b = .int .i64 0) (hc : c = .int .i64 x) : DigPost r w (.returned (.tuple #[a, b, c])) w' := by
  subst h ha hb' hc
  exact ⟨_, rfl, World.ownsRow_nil _ _ _ _, hb⟩
theorem DigPost.row {r : List (List UInt8) × Nat × Int} {w w' : World} {xs : List (List UInt8)} {u : Nat} (h : r = (xs, u, 0)) (hb : Below w.heap.size w w') {a b c : Value} (ha : w'.ownsRow w.heap.size 57 16 a xs.length (digCells xs)) (hb' : b = .int .i64 (u : Int)) (hc : c = .int .i64 0) : DigPost r w (.returned (.tuple #[a, b, c])) w' := by
  subst h hb' hc
  exact ⟨_, rfl, ha, hb⟩

def ManyD (l : List UInt8) (n u : Nat) (w : World) (at_ i : Value) (wr : World) : Prop :=
  ∃ (k d : Nat) (acc : List (List UInt8)), k ≤ n ∧ i = .int .i64 k ∧ at_ = .int .i64 ((u + d : Nat) : Int) ∧ acc.length = k ∧ d = k * 16 ∧ (∀ x ∈ acc, x.length = 16) ∧
    WM.getMany WM.getD n (l.drop u) = comb acc d (WM.getMany WM.getD (n - k) ((l.drop u).drop d)) ∧
    wr.ownsRow w.heap.size 57 16 (.slice (some ⟨w.heap.size, 0, none⟩) n n) n (digCells acc ++ List.replicate ((n - k) * 16) (.int .u8 0)) ∧ Below w.heap.size w wr

set_option maxRecDepth 100000 in
set_option maxHeartbeats 1600000 in
theorem getListDigests_any (A : Option Addr) (cap : Nat) (l : List UInt8) (w : World) (hl : l.length ≤ 1000000000) (hcap : l.length ≤ cap) (hh : Holds w A (l.map B8)) :
    Calls Try.prog 49 #[.slice A l.length cap, .int .i64 16, .func (.func 50) #[] #[]] w (DigPost (WM.getAll WM.getD 16 l) w) := by
  obtain ⟨i0, hi, hz0, hz1, hz2⟩ := info_parts Try.info57
  have hL := getLen_any A cap l 16 w hl (by omega) (by omega) hh
  by_cases h0 : (WM.getL l 16).2.2 = 0
  · have hB : WM.getAll WM.getD 16 l = comb [] (WM.getL l 16).2.1 (WM.getMany WM.getD (WM.getL l 16).1 (l.drop (WM.getL l 16).2.1)) := by
      unfold WM.getAll comb; rw [if_pos h0]; rfl
    obtain ⟨_, h1, _, h2⟩ := WM.getL_ok (l := l) (s := 16) (n := (WM.getL l 16).1) (u := (WM.getL l 16).2.1) (by rw [← h0])
    rw [hB]; clear hB
    rw [h0] at hL
    generalize (WM.getL l 16).1 = n at hL h2 ⊢
    generalize (WM.getL l 16).2.1 = u at hL h1 ⊢ h2
    clear h0
    have h2 : n * 16 ≤ l.length - u := (Nat.le_div_iff_mul_le (by omega)).1 h2
    have HL := Lib.hid hL
    clear hL
    go_enter Try.func49, Try.ntmps49
    go_wp2_with (first | (go_at_call 45; refine HL.out.mono ?_; rintro e w' ⟨rfl, rfl⟩) | (at_make; refine wpList_make_full _ rfl _ _ 24 rfl w.heap.size 57 i0 _ 16 Try.underlying24 hi hz0 hz1 _ _ _ _ n rfl rfl rfl rfl ?b2 ?b3 ?b4 ?_))
    case b2 => rw [hz2]; omega
    case b3 => unfold maxLen; omega
    case b4 => omega
    intro w1 hown1 hg1
    go_wp2_with fail
    go_loopw [10, 31] (ManyD l n u w) (fun _ i _ => n - (intOf i).toNat)
    case atStart =>
      refine ⟨0, 0, [], by omega, rfl, rfl, rfl, rfl, by simp, comb_start _ _ (fun h => ?_), ?_, (Below.refl _ _).grown hg1 (Nat.le_refl _) (fun k hk => by cases hk)⟩
      · have := WM.many_errs WM.codeD n (l.drop u) h; exact ⟨this.1, this.2.1⟩
      · have hown2 : w1.ownsRow w.heap.size 57 16 (.slice (some ⟨w.heap.size, 0, none⟩) n n) n (madeCells (List.replicate 16 (Value.int .u8 0)).toArray (n * 16)).toList := hown1
        rw [made_rep 16 _ _ (by decide)] at hown2
        exact hown2
    case round =>
      obtain ⟨k, dd, acc, hk, rfl, rfl, hacc, hd, hall, hM, hown, hb⟩ := hrel
      have hsz := hb.size
      by_cases hlt : k < n
      · subst hd
        have HM := Lib.hid hM
        have HA := Lib.hid hacc
        have HO := Lib.hid hown
        have HW := Lib.hid hall
        clear hM hacc hown hown1 hall
        have hh2 := (hh.keep (Keeps.of hb)).rest (k := u + k * 16) hcap
        have hne : ¬ cap = u + k * 16 := by omega
        rw [if_neg hne] at hh2
        have hdl : ((l.drop (u + k * 16)).take 16).length = 16 := by simp; omega
        obtain ⟨ad0, hA, _⟩ := hh2 0 (B8 ((l.drop (u + k * 16)).getD 0 0)) (by rw [List.getElem?_map, List.getElem?_eq_getElem (by simp; omega)]; simp [List.getElem?_eq_getElem (show u + k * 16 < l.length by omega)])
        cases A with
        | none => cases hA
        | some ad =>
        clear hA
        have hX : WM.getD (l.drop (u + k * 16)) = ((l.drop (u + k * 16)).take 16, 16, 0) := by unfold WM.getD; rw [if_neg (by simp; omega)]
        have hc16 : ∀ j v, (((l.drop (u + k * 16)).take 16).map B8)[j]? = some v → wr.cell? ((ad.add (u + k * 16)).add j) = some v := fun j v hv => by
          rw [List.map_take, List.getElem?_take] at hv
          split at hv
          · obtain ⟨ad', e, hc⟩ := hh2 j v hv
            cases e
            exact hc
          · cases hv
        generalize (l.drop (u + k * 16)).take 16 = d at hdl hX hc16
        have HX := Lib.hid hX
        have HC := Lib.hid hc16
        have HD := Lib.hid hdl
        clear hX hc16 hdl hh2 hh
        go_wp2_with fail
        refine (getDigest_any _ _ _ d _ HD.out (by omega) (by omega) HC.out).mono ?_
        rintro e w2 ⟨rfl, rfl⟩
        have hown2 := (HO.out.alloc (.cells (d.map B8).toArray 57)).alloc (.cells (d.map B8).toArray 57)
        have HO2 := Lib.hid hown2
        clear hown2
        go_wp2_with (first | (with_reducible refine wpList_new57 (o := ⟨none, .store 57 (.tmp 14) (.tmp 40), _, _, _, _⟩) ?g2 (.tmp 14) (.tmp 40) ?o2 _ (d.map B8).toArray ?x2 ?y2 ?l2 ?l3 (B8_all d) ?_) | (with_reducible refine wpList_load57 (o := ⟨some 48, _, _, _, _, _⟩) ?g3 (.tmp 14) ?o3 ⟨wr.heap.size + 1, 0, none⟩ ?x3 (d.map B8) ?l4 ?c3 ?_) | (with_reducible refine wpList_own57 (o := ⟨none, .store 57 (.tmp 49) (.tmp 48), _, _, _, _⟩) ?g4 (.tmp 49) (.tmp 48) ?o4 w.heap.size n n w.heap.size k (digCells acc ++ List.replicate ((n - k) * 16) (Value.int .u8 0)) (d.map B8) ?x4 ?y4 HO2.out hlt ?v4 (B8_one d) ?_))
        case g2 => rfl
        case o2 => rfl
        case x2 => show Value.pointer (some ⟨wr.heap.size + 1, 0, none⟩) = _; simp
        case y2 => rfl
        case l2 => rfl
        case l3 => simpa using HD.out
        case g3 => rfl
        case o3 => rfl
        case x3 => rfl
        case l4 => rw [List.length_map]; exact HD.out
        case c3 =>
          intro j v hv
          have h := block_cells (w := wr.alloc (.cells (d.map B8).toArray 57)) (t := 57) (cs := (d.map B8).toArray) rfl hv
          simpa using h
        case g4 => rfl
        case o4 => rfl
        case x4 => rfl
        case y4 => rfl
        case v4 => rw [List.length_map]; exact HD.out
        intro W' hown' hg'
        rw [← List.append_assoc, next16 HW.out HA.out hlt] at hown'
        have HO3 := Lib.hid hown'
        have hb' := ((hb.alloc (by omega) (.cells (d.map B8).toArray 57)).alloc (by simp; omega) (.cells (d.map B8).toArray 57)).grown hg' (by simp; omega) (fun j hj => by cases hj; exact Nat.le_refl _)
        clear hown' hg'
        go_wp2_with fail
        go_roundw
        case rel =>
          refine ⟨k + 1, (k + 1) * 16, acc ++ [d], by omega, by go_num, by congr 1; omega, by simp [HA.out], rfl, ?_, ?_, HO3.out, hb'⟩
          · intro y hy
            rcases List.mem_append.1 hy with hy | hy
            · exact HW.out y hy
            · rw [List.mem_singleton.1 hy]; exact HD.out
          · have e1 := HM.out
            rw [show n - k = (n - (k + 1)) + 1 by omega] at e1
            have e2 := comb_step e1 (by rw [List.drop_drop]; exact HX.out)
            rw [show k * 16 + 16 = (k + 1) * 16 by omega] at e2
            exact e2
        case measure => simp [intOf]; omega
      · have hkn : k = n := by omega
        have HM := Lib.hid hM
        have HA := Lib.hid hacc
        have HO := Lib.hid hown
        clear hM hacc hown hown1 hd
        go_wp2_with fail
        go_ret3
        subst hkn
        refine DigPost.row (comb_done HM.out) hb ?_ rfl rfl
        have h := HO.out
        simp only [Nat.sub_self, Nat.zero_mul, List.replicate_zero, List.append_nil] at h
        rw [HA.out]
        exact h
  · have hB : WM.getAll WM.getD 16 l = ([], 0, (WM.getL l 16).2.2) := by unfold WM.getAll; rw [if_neg h0]
    rw [hB]; clear hB
    have b0 : ((WM.getL l 16).2.2 != 0) = true := by rw [bne_iff_ne]; exact h0
    generalize (WM.getL l 16).1 = n at hL
    generalize (WM.getL l 16).2.1 = u at hL
    generalize (WM.getL l 16).2.2 = x at hL b0 ⊢
    clear h0
    have HL := Lib.hid hL
    clear hL hh
    go_enter Try.func49, Try.ntmps49
    go_wp2_with (go_at_call 45; refine HL.out.mono ?_; rintro e w' ⟨rfl, rfl⟩)
    go_ret3
    exact DigPost.nil rfl (Below.refl _ _) rfl rfl rfl

/-- The contract of GetDigests. -/
theorem getDigests_any (A : Option Addr) (cap : Nat) (l : List UInt8) (w : World) (hl : l.length ≤ 1000000000) (hcap : l.length ≤ cap) (hh : Holds w A (l.map B8)) :
    Calls Try.prog 34 #[.slice A l.length cap] w (DigPost (WM.getAll WM.getD 16 l) w) := by
  go_enter Try.func34, Try.ntmps34
  go_wp2_with fail
  refine (getListDigests_any A cap l w hl hcap hh).mono ?_
  rintro e w1 ⟨v1, rfl, hown1, hb1⟩
  go_wp2_with fail
  go_ret3
  exact ⟨_, rfl, hown1, hb1⟩
end Go.Proofs.Ytkbmgkaopjjkoaa
