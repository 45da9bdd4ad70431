/-
  Contracts of the functions that the statement calls, part 35 of 37 (merged texts: Jl6, Jl7, Jl8). Conditions: as the head of each part says.
-/
import Derived.Test.YthgmlopkcgkjlaaGzH
import Derived.Test.YthgmlopkcgkjlaaGW

/-
  A call on both sides, and the law's after: the journal and the reference behind a script. Conditions: both lie there; few calls.
-/
namespace Go.Proofs.Ythgmlopkcgkjlaa
open Go.RowKit Go.Shelf

theorem free_append {n : Nat} {l : List ByteArray} {r : ByteArray} (hb : longIn l = false) :
    (if longIn (l ++ [r]) then (2 : Int) else if capOf n < JM.useR (l ++ [r]) then 12 else 0) = JM.appE (capOf n) l r ∧ (if longIn (l ++ [r]) then l else if capOf n < JM.useR (l ++ [r]) then l else l ++ [r]) = JM.appL (capOf n) l r := by
  rw [long_snoc hb, use_snoc]
  unfold JM.appE JM.appL
  by_cases h1 : 8000 < r.size
  · rw [decide_eq_true h1, if_pos h1, if_pos h1]; exact ⟨rfl, rfl⟩
  · rw [decide_eq_false h1, if_neg h1, if_neg h1]; exact ⟨rfl, rfl⟩
theorem app_num {n : Nat} {l : List ByteArray} {r : ByteArray} : (if JM.appE (capOf n) l r = 0 then l.length else 0) = JM.appN (capOf n) l r := by
  unfold JM.appE JM.appN
  by_cases h1 : 8000 < r.size
  · rw [if_pos h1, if_pos h1]; rfl
  · rw [if_neg h1, if_neg h1]
    by_cases h2 : capOf n < JM.useR l + 2 + r.size
    · rw [if_pos h2, if_pos h2]; rfl
    · rw [if_neg h2, if_neg h2]; rfl
theorem free_replace {n : Nat} {l rs : List ByteArray} :
    (if longIn rs then (2 : Int) else if capOf n < JM.useR rs then 12 else 0) = JM.repE (capOf n) rs ∧ (if longIn rs then l else if capOf n < JM.useR rs then l else rs) = JM.repL (capOf n) l rs := by
  unfold JM.repE JM.repL longIn
  exact ⟨rfl, rfl⟩
/-- A call on the program's side. -/
theorem jw_do {n0 n : Nat} {w v : World} {gj gd gp gm cp : Nat} {Y : List Value} {k : Nat} {l : List ByteArray} {B : Option Addr} (kind nn kk : Int) (fill : UInt8) (hn82 : nn ≤ 8200) (hk20 : kk ≤ 20) (h4 : 4 ≤ n) (h40 : n ≤ 40) (hk : k ≤ 800000) (h : JW n0 n w v gj gd gp gm cp Y k l B) :
    Calls Try.prog 39 #[.pointer (some ⟨gd, 0, none⟩), .pointer (some ⟨gj, 0, none⟩), .agg #[.int .i64 kind, .int .i64 nn, .int .i64 kk, .int .u8 (fill.toNat : Int)]] v fun e v' => ∃ gj' B', e = .returned (.tuple #[.pointer (some ⟨gj', 0, none⟩), .int .i64 (JM.doN (capOf n) l ⟨kind, nn, kk, fill⟩ : Nat), .int .i64 (JM.doE (capOf n) l ⟨kind, nn, kk, fill⟩)]) ∧ JW n0 n w v' gj' gd gp gm cp Y (k + 41) (JM.doL (capOf n) l ⟨kind, nn, kk, fill⟩) B' ∧ FreshA B v.heap.size B' ∧ (gj' = gj ∨ v.heap.size ≤ gj') ∧ Only [gj, gd, gp, gm] v v' := by
  have hJ := h
  obtain ⟨x, c, M, p, s, t, b, g, z⟩ := h
  have hcb : capOf n ≤ 2432 := by unfold capOf; omega
  have hu := s.use
  by_cases h1 : kind = 1
  · subst h1
    obtain ⟨s', t', e1, e2, e3⟩ := jst_free (rs := l ++ [(⟨1, nn, kk, fill⟩ : OpJ).text]) s h4 t
    obtain ⟨f1, f2⟩ := free_append (n := n) (l := l) (r := (⟨1, nn, kk, fill⟩ : OpJ).text) s.big
    rw [f1] at e2
    rw [f2] at e3
    refine (do_append n0 gj x B c l false gd gp gm k cp Y M n nn kk fill _ v hn82 rfl s.h1 s.ok s.len h4 h40 hk (by omega) z p).mono ?_
    rintro e v' ⟨rfl, ⟨B', c', hp, hF⟩, ho⟩
    rw [e1, e3] at hp
    rw [e3] at s'
    have eL : JM.doL (capOf n) l ⟨1, nn, kk, fill⟩ = JM.appL (capOf n) l (⟨1, nn, kk, fill⟩ : OpJ).text := rfl
    have eE : JM.doE (capOf n) l ⟨1, nn, kk, fill⟩ = JM.appE (capOf n) l (⟨1, nn, kk, fill⟩ : OpJ).text := rfl
    have eN : JM.doN (capOf n) l ⟨1, nn, kk, fill⟩ = JM.appN (capOf n) l (⟨1, nn, kk, fill⟩ : OpJ).text := rfl
    refine ⟨gj, B', ?_, ?_, hF, .inl rfl, ho⟩
    · unfold jN
      rw [e2, app_num, eE, eN]
    · rw [eL]; exact hJ.after hp s' t' ho
  · by_cases h2 : kind = 2
    · subst h2
      obtain ⟨s', t', e1, e2, e3⟩ := jst_free (rs := (⟨2, nn, kk, fill⟩ : OpJ).texts) s h4 t
      obtain ⟨f1, f2⟩ := free_replace (n := n) (l := l) (rs := (⟨2, nn, kk, fill⟩ : OpJ).texts)
      rw [f1] at e2
      rw [f2] at e3
      refine (do_replace n0 gj x B c l false gd gp gm k cp Y M n nn kk fill v hn82 hk20 s.h1 s.ok s.len h4 h40 hk z p).mono ?_
      rintro e v' ⟨rfl, ⟨B', c', hp, hF⟩, ho⟩
      rw [e1, e3] at hp
      rw [e3] at s'
      have eL : JM.doL (capOf n) l ⟨2, nn, kk, fill⟩ = JM.repL (capOf n) l (⟨2, nn, kk, fill⟩ : OpJ).texts := rfl
      have eE : JM.doE (capOf n) l ⟨2, nn, kk, fill⟩ = JM.repE (capOf n) (⟨2, nn, kk, fill⟩ : OpJ).texts := rfl
      have eN : JM.doN (capOf n) l ⟨2, nn, kk, fill⟩ = 0 := rfl
      refine ⟨gj, B', ?_, ?_, hF, .inl rfl, ho⟩
      · rw [e2, eE, eN]; rfl
      · rw [eL]; exact hJ.after hp s' t' ho
    · have eL : JM.doL (capOf n) l ⟨kind, nn, kk, fill⟩ = l := by unfold JM.doL; rw [if_neg h1, if_neg h2]
      have eE : JM.doE (capOf n) l ⟨kind, nn, kk, fill⟩ = 0 := by unfold JM.doE; rw [if_neg h1, if_neg h2]
      have eN : JM.doN (capOf n) l ⟨kind, nn, kk, fill⟩ = 0 := by unfold JM.doN; rw [if_neg h1]
      rw [eL, eE, eN]
      by_cases h3 : kind = 3
      · subst h3
        refine (do_open n0 gj x B c l gd gp gm k cp Y M n nn kk fill v s h4 h40 z p).mono ?_
        rintro e v' ⟨gj', B', c', rfl, hp, hle, hlo, hb⟩
        exact ⟨gj', B', rfl, ⟨x, c', M, ⟨hp.p.mono (by omega), hp.j, hp.o, hp.al, hp.dj, hp.ad⟩, s, t, b.trans (hb.mono z), ⟨by omega, g.2⟩, Nat.le_trans z hb.size⟩, fun q hq => .inr (hlo q hq), .inr hle, Only.of_below hb⟩
      · refine (do_none n0 gj x B c l false gd gp gm k cp Y M kind nn kk fill v h1 h2 h3 p).mono ?_
        rintro e v' ⟨rfl, hp, hb⟩
        exact ⟨gj, B, rfl, ⟨x, c, M, ⟨hp.p.mono (by omega), hp.j, hp.o, hp.al, hp.dj, hp.ad⟩, s, t, b.trans (hb.mono z), g, Nat.le_trans z hb.size⟩, fun q hq => .inl hq, .inl rfl, Only.of_below hb⟩
/-- The journal and the reference, side by side. -/
structure JWR (n0 n : Nat) (w v : World) (gj gd gp gm cp : Nat) (Y : List Value) (k : Nat) (l : List ByteArray) (B : Option Addr) (gr : Nat) (R : Option Addr) (cr : Nat) : Prop where
  p : JW n0 n w v gj gd gp gm cp Y k l B
  r : JRef v gr R cr (capOf n) l
  a : gr ∉ [gj, gd, gp, gm]
  b : B ≠ some ⟨gr, 0, none⟩
  c : ∀ q, R = some ⟨q, 0, none⟩ → q ∉ [gj, gd, gp, gm] ∧ q < v.heap.size
  z : n0 ≤ gr
theorem JWR.next {n0 n : Nat} {w v v' : World} {gj gd gp gm cp : Nat} {Y : List Value} {k : Nat} {l : List ByteArray} {B : Option Addr} {gr : Nat} {R : Option Addr} {cr : Nat} (h : JWR n0 n w v gj gd gp gm cp Y k l B gr R cr) (hb : Below v.heap.size v v') : JWR n0 n w v' gj gd gp gm cp Y k l B gr R cr :=
  ⟨h.p.next hb, h.r.next hb, h.a, h.b, fun q hq => ⟨(h.c q hq).1, Nat.lt_of_lt_of_le (h.c q hq).2 hb.size⟩, h.z⟩
/-- What the program's call leaves of both. -/
theorem JWR.prog {n0 n : Nat} {w v v' : World} {gj gj' gd gp gm cp : Nat} {Y : List Value} {k k' : Nat} {l l' : List ByteArray} {B B' : Option Addr} {gr : Nat} {R : Option Addr} {cr : Nat} (h : JWR n0 n w v gj gd gp gm cp Y k l B gr R cr) (_hp : JW n0 n w v' gj' gd gp gm cp Y k' l' B') (hF : FreshA B v.heap.size B') (hg : gj' = gj ∨ v.heap.size ≤ gj') (ho : Only [gj, gd, gp, gm] v v') :
    JRef v' gr R cr (capOf n) l ∧ gr ∉ [gj', gd, gp, gm] ∧ B' ≠ some ⟨gr, 0, none⟩ ∧ (∀ q, R = some ⟨q, 0, none⟩ → q ∉ [gj', gd, gp, gm] ∧ q < v'.heap.size) := by
  have hgl := h.r.d.lt
  have ha := h.a
  refine ⟨h.r.only ho h.a (fun q hq => (h.c q hq).1), ?_, ?_, fun q hq => ⟨?_, Nat.lt_of_lt_of_le (h.c q hq).2 ho.size⟩⟩
  · simp at ha ⊢
    rcases hg with rfl | hg
    · exact ha
    · omega
  · intro e
    rcases hF gr e with e1 | e1
    · exact h.b e1
    · omega
  · have hc := h.c q hq
    have hc1 := hc.1
    simp at hc1 ⊢
    rcases hg with rfl | hg
    · exact hc1
    · omega
theorem results_tmp4 {fn : Func} {t u v z : Tmp} (h : fn.results = #[.tmp t, .tmp u, .tmp v, .tmp z]) (tmps : Array Value) (P : Program) (w : World) :
    (results fn tmps).run P w = .ok (.tuple #[tmps.getD t undef, tmps.getD u undef, tmps.getD v undef, tmps.getD z undef]) w := by
  simp [results, h]
def scrTo (n : Nat) : List OpJ → List ByteArray → List ByteArray
  | [], l => l
  | x :: xs, l => scrTo n xs (JM.doL (capOf n) l x)
def AfRel (n0 n : Nat) (w : World) (gd gp gm gr : Nat) (N : Nat) (jv iv : Value) (wr : World) : Prop :=
  ∃ (j gj k : Nat) (l : List ByteArray) (B R : Option Addr) (cr : Nat), j ≤ N ∧ iv = .int .i64 (j : Int) ∧ jv = .pointer (some ⟨gj, 0, none⟩) ∧ k ≤ 41 * j ∧ JWR n0 n w wr gj gd gp gm n [] k l B gr R cr
set_option maxRecDepth 100000 in
set_option maxHeartbeats 3200000 in
theorem after_any (n0 n : Nat) (w v : World) (A : Option Addr) (c : Nat) (xs : List OpJ) (h4 : 4 ≤ n) (h40 : n ≤ 40) (hl : xs.length ≤ 10) (hf : ∀ x ∈ xs, x.few) (hS : ScriptJ n0 w A xs) (hb : Below n0 w v) (hs : n0 ≤ v.heap.size) :
    Calls Try.prog 52 #[.int .i64 (n : Int), .slice A xs.length c] v fun e v' => ∃ gj gd gp gm gr k l B R cr, e = .returned (.tuple #[.pointer (some ⟨gd, 0, none⟩), .pointer (some ⟨gj, 0, none⟩), .pointer (some ⟨gr, 0, none⟩), .bool true]) ∧ k ≤ 500 ∧ JWR n0 n w v' gj gd gp gm n [] k l B gr R cr := by
  have HS := Lib.hid hS
  have HF := Lib.hid hf
  obtain ⟨N, hN⟩ : ∃ N, Hid (xs.length = N) := ⟨_, rfl⟩
  rw [hN.out] at hl ⊢
  have hcb : capOf n ≤ 2432 := by unfold capOf; omega
  clear hS hf
  go_enter Try.func52, Try.ntmps52
  go_wp2_with fail
  (with_reducible refine (jw_fresh n w v n0 h4 h40 hb hs).mono ?_)
  rintro e v1 ⟨gd, gp, gm, gj, B, rfl, h1, hb1⟩
  clear hb hs
  go_wp2_with fail
  (with_reducible refine (jnew_any n _ h4 h40).mono ?_)
  rintro e v2 ⟨gr, rfl, hr, hb2, hgr⟩
  have hlt := h1.lt
  have hBl := h1.addr
  have hbig := h1.big
  have h2 : JWR n0 n w v2 gj gd gp gm n [] 0 [] B gr none 0 := ⟨h1.next hb2, hr, by simp; omega, fun e => by have := hBl gr e; omega, fun q hq => (by cases hq), by omega⟩
  clear h1 hr hb1 hb2 hgr hlt hBl hbig
  go_wp2
  go_loopw [9, 13] (AfRel n0 n w gd gp gm gr N) (fun _ i _ => N - natOf i)
  case atStart => exact ⟨0, gj, 0, [], B, none, 0, Nat.zero_le _, rfl, rfl, Nat.le_refl _, h2⟩
  case round =>
    clear h2
    obtain ⟨j, gj', k, l, B', R, cr, hj, rfl, rfl, hk, h⟩ := hrel
    by_cases hjn : j < N
    · have hji : (j : Int) < (N : Int) := by omega
      obtain ⟨x, hx⟩ : ∃ x, xs[j]? = some x := ⟨_, List.getElem?_eq_getElem (by rw [hN.out]; exact hjn)⟩
      obtain ⟨p, rfl, hcw⟩ := HS.out j x hx
      have hfx := HF.out x (List.mem_of_getElem? hx)
      obtain ⟨kind, nn, kk, fill⟩ := x
      have hn82 : nn ≤ 8200 := hfx.n
      have hk20 : kk ≤ 20 := hfx.k
      have hBw : Below n0 w wr := by obtain ⟨_, _, _, _, _, _, b, _, _⟩ := h.p; exact b
      have hc := hcw wr hBw
      have HCW := Lib.hid hcw
      have hun := Try.underlying75
      have huse := h.p.use
      have hc' : ∀ (q : Nat) (u : Value), [Value.int .i64 kind, .int .i64 nn, .int .i64 kk, .int .u8 (fill.toNat : Int)][q]? = some u → wr.cell? ((p.add (j * 4)).add q) = some u := hc
      clear hx hj hcw hfx hc
      go_wp2_with (with_reducible refine wpList_load_add (op := ⟨some 52, .load 75 (.tmp 51), _, _, _, _⟩) (by with_unfolding_all rfl) 75 (.tmp 51) (by with_unfolding_all rfl) (p.add (j * 4)) (by with_unfolding_all rfl) [.int .i64 kind, .int .i64 nn, .int .i64 kk, .int .u8 (fill.toNat : Int)] _ hc' hun (by with_unfolding_all rfl) (by with_unfolding_all exact Try.sizeJ) ?_)
      go_wp2_with fail
      (with_reducible refine (jw_do kind nn kk fill hn82 hk20 h4 h40 (by omega) h.p).mono ?_)
      rintro e v3 ⟨g3, B3, rfl, h3, hF3, hg3, ho3⟩
      obtain ⟨r3, a3, b3, c3⟩ := h.prog h3 hF3 hg3 ho3
      have z3 := h.z
      have hBw3 : Below n0 w v3 := by obtain ⟨_, _, _, _, _, _, b, _, _⟩ := h3; exact b
      have hc3 : ∀ (q : Nat) (u : Value), [Value.int .i64 kind, .int .i64 nn, .int .i64 kk, .int .u8 (fill.toNat : Int)][q]? = some u → v3.cell? ((p.add (j * 4)).add q) = some u := HCW.out v3 hBw3
      clear h hF3 hg3 ho3 hc'
      go_wp2_with (with_reducible refine wpList_load_add (op := ⟨some 62, .load 75 (.tmp 61), _, _, _, _⟩) (by with_unfolding_all rfl) 75 (.tmp 61) (by with_unfolding_all rfl) (p.add (j * 4)) (by with_unfolding_all rfl) [.int .i64 kind, .int .i64 nn, .int .i64 kk, .int .u8 (fill.toNat : Int)] _ hc3 hun (by with_unfolding_all rfl) (by with_unfolding_all exact Try.sizeJ) ?_)
      go_wp2_with fail
      (with_reducible refine (jdo_any2 gr R cr (capOf n) l kind nn kk fill _ hn82 hk20 (by omega) (by omega) r3).mono ?_)
      rintro e v4 ⟨rfl, R4, cr4, r4, ho4, hn4⟩
      have hsz3 : ∀ q, q ∈ [g3, gd, gp, gm] → q < v3.heap.size := by
        have := h3.lt
        intro q hq
        simp only [List.mem_cons, List.not_mem_nil, or_false] at hq
        rcases hq with rfl | rfl | rfl | rfl <;> omega
      have h4' : JWR n0 n w v4 g3 gd gp gm n [] (k + 41) (JM.doL (capOf n) l ⟨kind, nn, kk, fill⟩) B3 gr R4 cr4 := by
        refine ⟨h3.only ho4 (by intro q hq; simp only [List.mem_singleton] at hq; subst hq; exact ⟨z3, a3, b3⟩), r4, a3, b3, fun q hq => ?_, z3⟩
        rcases hn4 q hq with e1 | ⟨e1, e2⟩
        · exact ⟨(c3 q (e1 ▸ hq)).1, Nat.lt_of_lt_of_le (c3 q (e1 ▸ hq)).2 ho4.size⟩
        · exact ⟨fun hm => by have := hsz3 q hm; omega, e2⟩
      clear h3 r3 r4 ho4 hn4 hc3 c3
      generalize JM.doE (capOf n) l ⟨kind, nn, kk, fill⟩ = E at *
      go_wp2
      go_roundw
      case rel => exact ⟨j + 1, g3, k + 41, _, B3, R4, cr4, by omega, by go_num, rfl, by omega, h4'⟩
      case measure => simp [natOf]; omega
    · obtain rfl : j = N := by omega
      go_wp2
      (try simp only [Exit.inBlock, Exit.then])
      refine bodyPost_ret (results_tmp4 rfl _ _ _) rfl ?_
      exact ⟨gj', gd, gp, gm, gr, k, l, B', R, cr, rfl, by omega, h⟩
end Go.Proofs.Ythgmlopkcgkjlaa

/-
  A call during which the power may fail: what it leaves, and what any Mount leaves of that. Conditions: the journal lies there.
-/
namespace Go.Proofs.Ythgmlopkcgkjlaa
open Go.RowKit Go.Shelf

/-- Behind any Mount the records are l' or l. -/
def Either2 (M : DM) (n : Nat) (l' l : List ByteArray) : Prop := ∀ picks, (∃ h, JSt (M.mount picks) n h l') ∨ ∃ h, JSt (M.mount picks) n h l
theorem jst_trip {M : DM} {n h : Nat} {l rs : List ByteArray} (s : JSt M n h l) (h4 : 4 ≤ n) :
    (JSt (jM M n h rs false) n (jH M n h rs false) (jL M n h l rs false) ∧ jC M n h rs false = false ∧ jE M n h rs false = (if longIn rs then 2 else if capOf n < JM.useR rs then 12 else 0) ∧ jL M n h l rs false = (if longIn rs then l else if capOf n < JM.useR rs then l else rs)) ∨
    (jE M n h rs false = 13 ∧ (if longIn rs then (2 : Int) else if capOf n < JM.useR rs then 12 else 0) = 0 ∧ (if longIn rs then l else if capOf n < JM.useR rs then l else rs) = rs ∧ (jM M n h rs false).ok ∧ (jM M n h rs false).ps.length = n ∧ (jM M n h rs false).up = false ∧ jH M n h rs false = h ∧ jL M n h l rs false = l ∧ jC M n h rs false = true ∧ Either2 (jM M n h rs false) n rs l) := by
  cases hc : canDo n rs false with
  | true =>
    obtain ⟨hb, hus⟩ := canDo_parts hc
    have e : jM M n h rs false = JM.keepM M (2 + (1 - h) * hpOf n) (1 - h) (JM.stream rs) := by unfold jM; rw [hc]; rfl
    have hnf : ¬ capOf n < JM.useR rs := by omega
    cases hu : (jM M n h rs false).up with
    | true =>
      have hw : jW M n h rs false = true := by unfold jW; rw [hc, hu]; rfl
      have hj := jst_keep s h4 hc hu
      have e1 : jH M n h rs false = 1 - h := by unfold jH; rw [hw]; rfl
      have e2 : jL M n h l rs false = rs := by unfold jL; rw [hw]; rfl
      have e3 : jC M n h rs false = false := by unfold jC; rw [hc, hu]; rfl
      have e4 : jE M n h rs false = 0 := by
        unfold jE
        rw [hb, if_neg hnf, upE_up hu]; rfl
      refine .inl ?_
      rw [e1, e2, e3, e4, hb, if_neg hnf, if_neg hnf]
      exact ⟨hj, rfl, rfl, rfl⟩
    | false =>
      have hw : jW M n h rs false = false := by unfold jW; rw [hc, hu]; rfl
      have e1 : jH M n h rs false = h := by unfold jH; rw [hw]; rfl
      have e2 : jL M n h l rs false = l := by unfold jL; rw [hw]; rfl
      have e3 : jC M n h rs false = true := by unfold jC; rw [hc, hu]; rfl
      have e4 : jE M n h rs false = 13 := by
        unfold jE
        rw [hb, if_neg hnf, upE_down hu]; rfl
      refine .inr ⟨e4, by rw [hb, if_neg hnf]; rfl, by rw [hb, if_neg hnf]; rfl, by rw [e]; exact JM.keepM_ok s.ok _ _ _, by rw [e, JM.keepM_len]; exact s.len, rfl, e1, e2, e3, fun picks => ?_⟩
      rcases survive (rs := rs) s h4 picks with J | ⟨_, J⟩
      · exact .inr ⟨h, J⟩
      · exact .inl ⟨1 - h, J⟩
  | false =>
    have e : jM M n h rs false = M := by unfold jM; rw [hc]; rfl
    have hw : jW M n h rs false = false := by unfold jW; rw [hc]; rfl
    refine .inl ?_
    unfold jH jL jC jE
    rw [hw, hc, e]
    refine ⟨s, rfl, ?_, ?_⟩
    · cases hb : longIn rs with
      | true => rfl
      | false =>
        by_cases hf : capOf n < JM.useR rs
        · rw [if_pos hf, if_pos hf]; rfl
        · unfold canDo at hc
          rw [hb, decide_eq_true (show JM.useR rs ≤ capOf n by omega)] at hc
          cases hc
    · cases hb : longIn rs with
      | true => rfl
      | false =>
        by_cases hf : capOf n < JM.useR rs
        · rw [if_pos hf]; rfl
        · unfold canDo at hc
          rw [hb, decide_eq_true (show JM.useR rs ≤ capOf n by omega)] at hc
          cases hc
/-- What a call leaves: it did what is specified, or the power failed. -/
def TripPost (n0 n : Nat) (v v' : World) (gj gj' gd gp gm cp : Nat) (Y : List Value) (half _k k' : Nat) (l : List ByteArray) (x : OpJ) (E : Int) (A : Option Addr) : Prop :=
  ∃ M' A' c', FreshA A v.heap.size A' ∧
    ((E = JM.doE (capOf n) l x ∧ ∃ h', PJ n0 v' gj' gd gp gm cp Y h' k' A' c' M' (JM.doL (capOf n) l x) false ∧ JSt M' n h' (JM.doL (capOf n) l x)) ∨
     (E = 13 ∧ JM.doE (capOf n) l x = 0 ∧ gj' = gj ∧ PJ n0 v' gj' gd gp gm cp Y half k' A' c' M' l true ∧ M'.ok ∧ M'.ps.length = n ∧ M'.up = false ∧ Either2 M' n (JM.doL (capOf n) l x) l))
theorem do_trip {n0 n : Nat} {v : World} {gj gd gp gm cp : Nat} {Y : List Value} {half k : Nat} {l : List ByteArray} {A : Option Addr} {c : Nat} {M : DM} (kind nn kk : Int) (fill : UInt8) (hn82 : nn ≤ 8200) (hk20 : kk ≤ 20) (h4 : 4 ≤ n) (h40 : n ≤ 40) (hk : k ≤ 800000) (hn0 : n0 ≤ v.heap.size) (p : PJ n0 v gj gd gp gm cp Y half k A c M l false) (s : JSt M n half l) :
    Calls Try.prog 39 #[.pointer (some ⟨gd, 0, none⟩), .pointer (some ⟨gj, 0, none⟩), .agg #[.int .i64 kind, .int .i64 nn, .int .i64 kk, .int .u8 (fill.toNat : Int)]] v fun e v' => ∃ gj' N E k', e = .returned (.tuple #[.pointer (some ⟨gj', 0, none⟩), .int .i64 N, .int .i64 E]) ∧ k' ≤ k + 41 ∧ TripPost n0 n v v' gj gj' gd gp gm cp Y half k k' l ⟨kind, nn, kk, fill⟩ E A ∧ Only [gj, gd, gp, gm] v v' := by
  have hcb : capOf n ≤ 2432 := by unfold capOf; omega
  have hu := s.use
  by_cases h1 : kind = 1
  · subst h1
    obtain ⟨f1, f2⟩ := free_append (n := n) (l := l) (r := (⟨1, nn, kk, fill⟩ : OpJ).text) s.big
    have eL : JM.doL (capOf n) l ⟨1, nn, kk, fill⟩ = JM.appL (capOf n) l (⟨1, nn, kk, fill⟩ : OpJ).text := rfl
    have eE : JM.doE (capOf n) l ⟨1, nn, kk, fill⟩ = JM.appE (capOf n) l (⟨1, nn, kk, fill⟩ : OpJ).text := rfl
    refine (do_append n0 gj half A c l false gd gp gm k cp Y M n nn kk fill _ v hn82 rfl s.h1 s.ok s.len h4 h40 hk (by omega) hn0 p).mono ?_
    rintro e v' ⟨rfl, ⟨A', c', hp, hF⟩, ho⟩
    refine ⟨gj, _, _, k + 41, rfl, Nat.le_refl _, ⟨jM M n half (l ++ [(⟨1, nn, kk, fill⟩ : OpJ).text]) false, A', c', hF, ?_⟩, ho⟩
    rw [eL, eE]
    rcases jst_trip (rs := l ++ [(⟨1, nn, kk, fill⟩ : OpJ).text]) s h4 with ⟨s', e1, e2, e3⟩ | ⟨e1, e2, e3, ok, len, up, eh, el, ec, hE⟩
    · rw [f1] at e2
      rw [f2] at e3
      rw [e1, e3] at hp
      rw [e3] at s'
      exact .inl ⟨e2, _, hp, s'⟩
    · rw [f1] at e2
      rw [f2] at e3
      rw [eh, el, ec] at hp
      rw [e3]
      exact .inr ⟨e1, e2, rfl, hp, ok, len, up, hE⟩
  · by_cases h2 : kind = 2
    · subst h2
      obtain ⟨f1, f2⟩ := free_replace (n := n) (l := l) (rs := (⟨2, nn, kk, fill⟩ : OpJ).texts)
      have eL : JM.doL (capOf n) l ⟨2, nn, kk, fill⟩ = JM.repL (capOf n) l (⟨2, nn, kk, fill⟩ : OpJ).texts := rfl
      have eE : JM.doE (capOf n) l ⟨2, nn, kk, fill⟩ = JM.repE (capOf n) (⟨2, nn, kk, fill⟩ : OpJ).texts := rfl
      refine (do_replace n0 gj half A c l false gd gp gm k cp Y M n nn kk fill v hn82 hk20 s.h1 s.ok s.len h4 h40 hk hn0 p).mono ?_
      rintro e v' ⟨rfl, ⟨A', c', hp, hF⟩, ho⟩
      refine ⟨gj, _, _, k + 41, rfl, Nat.le_refl _, ⟨jM M n half (⟨2, nn, kk, fill⟩ : OpJ).texts false, A', c', hF, ?_⟩, ho⟩
      rw [eL, eE]
      rcases jst_trip (rs := (⟨2, nn, kk, fill⟩ : OpJ).texts) s h4 with ⟨s', e1, e2, e3⟩ | ⟨e1, e2, e3, ok, len, up, eh, el, ec, hE⟩
      · rw [f1] at e2
        rw [f2] at e3
        rw [e1, e3] at hp
        rw [e3] at s'
        exact .inl ⟨e2, _, hp, s'⟩
      · rw [f1] at e2
        rw [f2] at e3
        rw [eh, el, ec] at hp
        rw [e3]
        exact .inr ⟨e1, e2, rfl, hp, ok, len, up, hE⟩
    · have eL : JM.doL (capOf n) l ⟨kind, nn, kk, fill⟩ = l := by unfold JM.doL; rw [if_neg h1, if_neg h2]
      have eE : JM.doE (capOf n) l ⟨kind, nn, kk, fill⟩ = 0 := by unfold JM.doE; rw [if_neg h1, if_neg h2]
      unfold TripPost
      rw [eL, eE]
      by_cases h3 : kind = 3
      · subst h3
        refine (do_open n0 gj half A c l gd gp gm k cp Y M n nn kk fill v s h4 h40 hn0 p).mono ?_
        rintro e v' ⟨gj', B', c', rfl, hp, hle, hlo, hb⟩
        exact ⟨gj', _, _, k, rfl, by omega, ⟨M, B', c', fun q hq => .inr (hlo q hq), .inl ⟨rfl, half, hp, s⟩⟩, Only.of_below hb⟩
      · refine (do_none n0 gj half A c l false gd gp gm k cp Y M kind nn kk fill v h1 h2 h3 p).mono ?_
        rintro e v' ⟨rfl, hp, hb⟩
        exact ⟨gj, _, _, k, rfl, by omega, ⟨M, A, c, fun q hq => .inl hq, .inl ⟨rfl, half, hp, s⟩⟩, Only.of_below hb⟩
/-- A disk that is up and holds the records l. -/
def DW (n0 n : Nat) (w v : World) (gd gp gm cp : Nat) (Y : List Value) (k : Nat) (l : List ByteArray) : Prop :=
  ∃ h M, PRep v gd gp gm cp Y M k ∧ JSt M n h l ∧ Below n0 w v ∧ (n0 ≤ gd ∧ n0 ≤ gp ∧ n0 ≤ gm) ∧ n0 ≤ v.heap.size
section
variable {n0 n : Nat} {w v : World} {gd gp gm cp : Nat} {Y : List Value} {k : Nat} {l : List ByteArray}
theorem DW.next (h : DW n0 n w v gd gp gm cp Y k l) {v' : World} (hb : Below v.heap.size v v') : DW n0 n w v' gd gp gm cp Y k l := by
  obtain ⟨x, M, p, s, b, g, z⟩ := h
  exact ⟨x, M, p.next hb, s, b.trans (hb.mono z), g, Nat.le_trans z hb.size⟩
theorem DW.below (h : DW n0 n w v gd gp gm cp Y k l) : Below n0 w v := by
  obtain ⟨x, M, p, s, b, g, z⟩ := h
  exact b
theorem dw_trip (t : Int) (h : DW n0 n w v gd gp gm cp Y k l) (h1 : 0 ≤ t) (h2 : t ≤ 255) :
    Calls Try.prog 22 #[.pointer (some ⟨gd, 0, none⟩), .int .i64 t] v fun e v' => e = .returned (.tuple #[]) ∧ DW n0 n w v' gd gp gm cp Y k l ∧ Only [gd, gp, gm] v v' := by
  obtain ⟨x, M, p, s, b, g, z⟩ := h
  refine (trip_any gd gp gm k cp Y M t v (by omega) (by omega) p).mono ?_
  rintro e v' ⟨rfl, hp, ho⟩
  exact ⟨rfl, ⟨x, _, hp, s.trip (by omega) (by omega), below_only b ho (by simp; omega) z, g, Nat.le_trans z ho.size⟩, ho.mono (by simp)⟩
theorem dw_open (h : DW n0 n w v gd gp gm cp Y k l) (h4 : 4 ≤ n) (h40 : n ≤ 40) :
    Calls Try.prog 37 #[.pointer (some ⟨gd, 0, none⟩)] v fun e v' => ∃ gj, e = .returned (.tuple #[.pointer (some ⟨gj, 0, none⟩), .int .i64 0]) ∧ DW n0 n w v' gd gp gm cp Y k l ∧ Below v.heap.size v v' := by
  obtain ⟨x, M, p, s, b, g, z⟩ := h
  refine (open_jst n0 x l gd gp gm k cp Y M n v s h4 h40 z p).mono ?_
  rintro e v' ⟨gj, A', c', rfl, hp, hle, hlo, hb⟩
  exact ⟨gj, rfl, ⟨x, M, p.next hb, s, b.trans (hb.mono z), g, Nat.le_trans z hb.size⟩, hb⟩
theorem dw_mount (A : Option Addr) (pc : Nat) (picks : List Int) (h : DW n0 n w v gd gp gm cp Y k l) (hl : picks.length ≤ 1000000) (hP : ∀ w', Below n0 w w' → PkAt w' A picks) :
    Calls Try.prog 27 #[.pointer (some ⟨gd, 0, none⟩), .slice A picks.length pc] v fun e v' => e = .returned (.tuple #[]) ∧ DW n0 n w v' gd gp gm cp Y k l ∧ Only [gd, gp, gm] v v' := by
  obtain ⟨x, M, p, s, b, g, z⟩ := h
  refine (mount_any gd gp gm k cp Y M A pc picks v s.ok p hl (fun w' ho => hP w' (below_only b ho (by simp; omega) z))).mono ?_
  rintro e v' ⟨rfl, hp, ho⟩
  exact ⟨rfl, ⟨x, _, hp, survive_done s picks, below_only b ho (by simp; omega) z, g, Nat.le_trans z ho.size⟩, ho⟩
/-- Open as the laws call it, and the records. -/
theorem dw_openlaw (h : DW n0 n w v gd gp gm cp Y k l) (h4 : 4 ≤ n) (h40 : n ≤ 40) :
    Calls Try.prog 51 #[.pointer (some ⟨gd, 0, none⟩)] v fun e v' => ∃ gj A c x M, e = .returned (.tuple #[.pointer (some ⟨gj, 0, none⟩), .bool true]) ∧ PJ n0 v' gj gd gp gm cp Y x k A c M l false ∧ JM.useR l ≤ capOf n ∧ Below n0 w v' ∧ Below v.heap.size v v' := by
  obtain ⟨x, M, p, s, b, g, z⟩ := h
  refine (openlaw_any n0 x l gd gp gm k cp Y M n v s h4 h40 z p).mono ?_
  rintro e v' ⟨gj, A', c', rfl, hp, hle, hlo, hb⟩
  exact ⟨gj, A', c', x, M, rfl, hp, s.use, b.trans (hb.mono z), hb⟩
end
theorem pj_records {n0 n : Nat} {v : World} {gj gd gp gm cp : Nat} {Y : List Value} {k x : Nat} {l : List ByteArray} {A : Option Addr} {c : Nat} {M : DM} {cl : Bool} (p : PJ n0 v gj gd gp gm cp Y x k A c M l cl) (hu : JM.useR l ≤ capOf n) (h40 : n ≤ 40) : Calls Try.prog 42 #[.pointer (some ⟨gj, 0, none⟩)] v fun e v' => ∃ A' c', e = .returned (.slice A' l.length c') ∧ RowAt v' A' (l.map Value.string) ∧ (∀ q, A' = some ⟨q, 0, none⟩ → v.heap.size ≤ q ∧ q < v'.heap.size) ∧ Below v.heap.size v v' := by
  have hc := JM.useR_count l
  refine (jrecords_any gj gd x A c l cl v (by unfold capOf at hu; omega) p.o.own p.j).mono ?_
  rintro e v' ⟨u, rfl, hown, hb⟩
  obtain ⟨A', c', rfl⟩ := own_shape hown
  exact ⟨A', c', rfl, (own_new hown).1, fun q hq => hown.lt q (by rw [hq]; rfl), hb⟩
end Go.Proofs.Ythgmlopkcgkjlaa

/-
  The walk of the law JournalSurvives. Conditions: its arguments lie there.
-/
namespace Go.Proofs.Ythgmlopkcgkjlaa
open Go.RowKit Go.Shelf

def TB (a b c : UInt8) : List Value := [.int .u8 (a.toNat : Int), .int .u8 (b.toNat : Int), .int .u8 (c.toNat : Int)]
theorem few_one (x : OpJ) (w : World) : Calls Try.prog 35 #[.slice (some ⟨w.heap.size, 0, none⟩) 1 1] (w.alloc (.cells #[.int .i64 x.kind, .int .i64 x.n, .int .i64 x.k, .int .u8 (x.fill.toNat : Int)] 75)) fun e w' => FewRes [x] e ∧ w' = w.alloc (.cells #[.int .i64 x.kind, .int .i64 x.n, .int .i64 x.k, .int .u8 (x.fill.toNat : Int)] 75) := by
  have hBn := blk_new w 75 (opJ x)
  refine jfew_any _ 1 [x] _ (by show (1 : Nat) ≤ _; decide) ?_
  intro j y hy
  have hj : j = 0 := by
    have := (List.getElem?_eq_some_iff.1 hy).1
    simp at this; exact this
  subst hj
  cases hy
  refine ⟨_, rfl, fun w' hw q u hu => ?_⟩
  have hlt : w.heap.size < (w.alloc (.cells #[.int .i64 x.kind, .int .i64 x.n, .int .i64 x.k, .int .u8 (x.fill.toNat : Int)] 75)).heap.size := hBn.lt
  have hcell := hBn.cell hu
  rw [addr_mid, addr_mid]
  rw [show 0 + 0 * 4 + q = q by omega]
  rw [hw.cell hlt]
  exact hcell
/-- What a call and its failure leave behind a Mount. -/
def OutM (n : Nat) (l : List ByteArray) (x : OpJ) (E : Int) (l' : List ByteArray) : Prop :=
  (E = JM.doE (capOf n) l x ∧ l' = JM.doL (capOf n) l x) ∨ (E = 13 ∧ JM.doE (capOf n) l x = 0 ∧ (l' = JM.doL (capOf n) l x ∨ l' = l))
theorem pj_trip {n0 : Nat} {v : World} {gj gd gp gm cp : Nat} {Y : List Value} {half k : Nat} {A : Option Addr} {c : Nat} {M : DM} {l : List ByteArray} {cl : Bool} (t : Int) (p : PJ n0 v gj gd gp gm cp Y half k A c M l cl) (h1 : -1 ≤ t) (h2 : t ≤ 255) :
    Calls Try.prog 22 #[.pointer (some ⟨gd, 0, none⟩), .int .i64 t] v fun e v' => e = .returned (.tuple #[]) ∧ PJ n0 v' gj gd gp gm cp Y half k A c (M.tripTo t) l cl ∧ Only [gd] v v' := by
  refine (trip_any gd gp gm k cp Y M t v (by omega) (by omega) p.p).mono ?_
  rintro e v' ⟨rfl, hp, ho⟩
  refine ⟨rfl, ⟨hp, p.j.only ho ?_ ?_, p.o, fun q hq => Nat.lt_of_lt_of_le (p.al q hq) ho.size, p.dj, p.ad⟩, ho⟩
  · have := p.dj; simp at this ⊢; omega
  · intro q hq; have := p.ad q hq; simp at this ⊢; omega
theorem trip_mount {n0 n : Nat} {w v v1 v2 : World} {gj gj' gd gp gm cp : Nat} {Y : List Value} {half k k' : Nat} {l : List ByteArray} {x : OpJ} {E : Int} {A : Option Addr} {gr : Nat} (T : TripPost n0 n v v1 gj gj' gd gp gm cp Y half k k' l x E A) (ho : Only [gr] v1 v2) (hg : gr ∉ [gd, gp, gm]) (b : Below n0 w v2) (g : n0 ≤ gd ∧ n0 ≤ gp ∧ n0 ≤ gm) (z : n0 ≤ v2.heap.size) (P : Option Addr) (pc : Nat) (picks : List Int) (hl : picks.length ≤ 1000000) (hP : ∀ w', Below n0 w w' → PkAt w' P picks) :
    Calls Try.prog 27 #[.pointer (some ⟨gd, 0, none⟩), .slice P picks.length pc] v2 fun e v' => e = .returned (.tuple #[]) ∧ (∃ l', DW n0 n w v' gd gp gm cp Y k' l' ∧ OutM n l x E l') ∧ Only [gd, gp, gm] v2 v' := by
  simp only [List.mem_cons, List.not_mem_nil, or_false, not_or] at hg
  obtain ⟨M', A', c', _, T⟩ := T
  rcases T with ⟨e, h', p, s⟩ | ⟨e1, e2, _, p, ok, len, up, hE⟩
  · have p2 := p.p.only ho (by simp; omega) (by simp; omega) (by simp; omega)
    refine (mount_any gd gp gm k' cp Y M' P pc picks v2 s.ok p2 hl (fun w' ho => hP w' (below_only b ho (by simp; omega) z))).mono ?_
    rintro y v' ⟨rfl, hp, ho⟩
    exact ⟨rfl, ⟨_, ⟨h', _, hp, survive_done s picks, below_only b ho (by simp; omega) z, g, Nat.le_trans z ho.size⟩, .inl ⟨e, rfl⟩⟩, ho⟩
  · have p2 := p.p.only ho (by simp; omega) (by simp; omega) (by simp; omega)
    refine (mount_any gd gp gm k' cp Y M' P pc picks v2 ok p2 hl (fun w' ho => hP w' (below_only b ho (by simp; omega) z))).mono ?_
    rintro y v' ⟨rfl, hp, ho⟩
    rcases hE picks with ⟨h', s⟩ | ⟨h', s⟩
    · exact ⟨rfl, ⟨_, ⟨h', _, hp, s, below_only b ho (by simp; omega) z, g, Nat.le_trans z ho.size⟩, .inr ⟨e1, e2, .inl rfl⟩⟩, ho⟩
    · exact ⟨rfl, ⟨_, ⟨h', _, hp, s, below_only b ho (by simp; omega) z, g, Nat.le_trans z ho.size⟩, .inr ⟨e1, e2, .inr rfl⟩⟩, ho⟩
def SvRel (n0 n : Nat) (w : World) (gd gp gm gr k : Nat) (l l2 l' : List ByteArray) (R R2 : Option Addr) (c2 : Nat) (iv : Value) (wr : World) : Prop :=
  ∃ j : Int, (j = 1 ∨ j = 2 ∨ j = 3) ∧ iv = .int .i64 j ∧ DW n0 n w wr gd gp gm n [] k l' ∧ JRef wr gr R2 c2 (capOf n) l2 ∧ RowAt wr R (l.map Value.string)
set_option maxRecDepth 100000 in
set_option maxHeartbeats 6400000 in
theorem survLaw_any (p : Int) (A : Option Addr) (c : Nat) (xs : List OpJ) (kind nn kk : Int) (fill t0 t1 t2 : UInt8) (P0 P1 P2 : Option Addr) (c0 c1 c2 : Nat) (k0 k1 k2 : List Int) (w : World) (hl : xs.length ≤ 140737488355328) (hS : ScriptJ w.heap.size w A xs)
    (hP0 : ∀ w', Below w.heap.size w w' → PkAt w' P0 k0) (hP1 : ∀ w', Below w.heap.size w w' → PkAt w' P1 k1) (hP2 : ∀ w', Below w.heap.size w w' → PkAt w' P2 k2) :
    Calls Try.prog 11 #[.int .i64 p, .slice A xs.length c, .agg #[.int .i64 kind, .int .i64 nn, .int .i64 kk, .int .u8 (fill.toNat : Int)], .agg #[.int .u8 (t0.toNat : Int), .int .u8 (t1.toNat : Int), .int .u8 (t2.toNat : Int)], .agg #[.slice P0 k0.length c0, .slice P1 k1.length c1, .slice P2 k2.length c2]] w fun e w' => e = .returned (.bool true) ∧ Below w.heap.size w w' := by
  have HS := Lib.hid hS
  have hun := Try.underlying75
  have H0 := Lib.hid hP0
  have H1 := Lib.hid hP1
  have H2 := Lib.hid hP2
  clear hS hP0 hP1 hP2
  obtain ⟨N, hN⟩ : ∃ N, Hid (xs.length = N) := ⟨_, rfl⟩
  obtain ⟨n0, hn0⟩ : ∃ n0, Hid (k0.length = n0) := ⟨_, rfl⟩
  obtain ⟨n1, hn1⟩ : ∃ n1, Hid (k1.length = n1) := ⟨_, rfl⟩
  obtain ⟨n2, hn2⟩ : ∃ n2, Hid (k2.length = n2) := ⟨_, rfl⟩
  rw [hN.out, hn0.out, hn1.out, hn2.out]
  rw [hN.out] at hl
  obtain ⟨F, hF⟩ : ∃ F : Int, Hid ((fill.toNat : Int) = F) := ⟨_, rfl⟩
  go_enter Try.func11, Try.ntmps11
  go_wp2_with (with_reducible refine wpList_box (o := ⟨some 7, .box 75 (.tmp 2), _, _, _, _⟩) ?g1 75 (.tmp 2) ?o1 (.agg #[.int .i64 kind, .int .i64 nn, .int .i64 kk, .int .u8 (fill.toNat : Int)]) [.int .i64 kind, .int .i64 nn, .int .i64 kk, .int .u8 (fill.toNat : Int)] ?x1 ?c1 ?_)
  try (case g1 => rfl)
  try (case o1 => rfl)
  try (case x1 => rfl)
  try (case c1 => rfl)
  intro ga w1 hga hs1 hb1 hA1
  have b1 : Below w.heap.size w w1 := hb1.mono (Nat.le_of_eq hga.out.symm)
  clear hb1 hga hs1
  go_wp2_with (with_reducible refine wpList_box (o := ⟨some 8, .box 93 (.tmp 3), _, _, _, _⟩) ?g2 93 (.tmp 3) ?o2 (.agg #[.int .u8 (t0.toNat : Int), .int .u8 (t1.toNat : Int), .int .u8 (t2.toNat : Int)]) [.int .u8 (t0.toNat : Int), .int .u8 (t1.toNat : Int), .int .u8 (t2.toNat : Int)] ?x2 ?c2 ?_)
  try (case g2 => rfl)
  try (case o2 => rfl)
  try (case x2 => rfl)
  try (case c2 => rfl)
  intro gb w2 hgb hs2 hb2 hB2
  have hb2' : Below w1.heap.size w1 w2 := hb2.mono (Nat.le_of_eq hgb.out.symm)
  have hA2 := hA1.next hb2' hA1.lt
  have b2 := below_join b1 hb2'
  clear hb2 hgb hs2 hA1 hb2' b1
  go_wp2_with (with_reducible refine wpList_box (o := ⟨some 9, .box 94 (.tmp 4), _, _, _, _⟩) ?g3 94 (.tmp 4) ?o3 (.agg #[.slice P0 n0 c0, .slice P1 n1 c1, .slice P2 n2 c2]) [.slice P0 n0 c0, .slice P1 n1 c1, .slice P2 n2 c2] ?x3 ?c3 ?_)
  try (case g3 => rfl)
  try (case o3 => rfl)
  try (case x3 => rfl)
  try (case c3 => rfl)
  intro gc w3 hgc hs3 hb3 hC3
  have hb3' : Below w2.heap.size w2 w3 := hb3.mono (Nat.le_of_eq hgc.out.symm)
  have hA3 := hA2.next hb3' hA2.lt
  have hB3 := hB2.next hb3' hB2.lt
  have b3 := below_join b2 hb3'
  clear hb3 hgc hs3 hA2 hB2 hb3' b2
  go_wp2_with fail
  have hf1 : Calls Try.prog 35 #[.slice A N c] w3 fun e w' => FewRes xs e ∧ w' = w3 := by
    have h := jfew_any A c xs w3 (by rw [hN.out]; exact hl) ((HS.out.next b3).up b3.size)
    rw [hN.out] at h
    exact h
  (with_reducible refine hf1.mono ?_)
  rintro e w3 ⟨⟨q1, rfl, hq1⟩, rfl⟩
  clear hf1
  go_wp2_with (with_reducible refine wpList_get (o := ⟨some 31, .load 75 (.tmp 7), _, _, _, _⟩) (by with_unfolding_all rfl) 75 (.tmp 7) (by with_unfolding_all rfl) ga 0 (by with_unfolding_all rfl) hA3 [.int .i64 kind, .int .i64 nn, .int .i64 kk, .int .u8 (fill.toNat : Int)] (cs_all _) _ (by with_unfolding_all exact hun) (by with_unfolding_all rfl) (by with_unfolding_all exact Try.sizeJ) ?_)
  have hbn := below_new w3 (.cells #[.int .i64 kind, .int .i64 nn, .int .i64 kk, .int .u8 (fill.toNat : Int)] 75)
  have hA4 := hA3.next hbn hA3.lt
  have hB4 := hB3.next hbn hB3.lt
  have hC4 := hC3.next hbn hC3.lt
  have b4 := below_join b3 hbn
  have hf2 : Calls Try.prog 35 #[.slice (some ⟨w3.heap.size, 0, none⟩) 1 1] (w3.alloc (.cells #[.int .i64 kind, .int .i64 nn, .int .i64 kk, .int .u8 (fill.toNat : Int)] 75)) _ := few_one ⟨kind, nn, kk, fill⟩ w3
  (with_reducible refine hf2.mono ?_)
  rintro e w4 ⟨⟨q2, rfl, hq2⟩, rfl⟩
  clear hf2 hA3 hB3 hC3 hbn b3
  generalize w3.alloc (.cells #[.int .i64 kind, .int .i64 nn, .int .i64 kk, .int .u8 (fill.toNat : Int)] 75) = w4 at hA4 hB4 hC4 b4 ⊢
  have d0 := hC4.cell (k := 0) rfl
  have d1 := hC4.cell (k := 1) rfl
  have d2 := hC4.cell (k := 2) rfl
  by_cases hlo : p < 4
  · go_wp2_with fail
    (with_reducible refine (jsanity_any _).mono ?_)
    rintro e w5 ⟨rfl, hb⟩
    have hb' := below_join b4 hb
    go_wp2
    go_ret
    exact ⟨rfl, hb'⟩
  by_cases hhi : 24 < p
  · have hlo' : 4 ≤ p := by omega
    go_wp2_with fail
    (with_reducible refine (jsanity_any _).mono ?_)
    rintro e w5 ⟨rfl, hb⟩
    have hb' := below_join b4 hb
    go_wp2
    go_ret
    exact ⟨rfl, hb'⟩
  have hlo' : 4 ≤ p := by omega
  have hhi' : p ≤ 24 := by omega
  rcases q1 with _ | _
  · go_wp2_with fail
    (with_reducible refine (jsanity_any _).mono ?_)
    rintro e w5 ⟨rfl, hb⟩
    have hb' := below_join b4 hb
    go_wp2
    go_ret
    exact ⟨rfl, hb'⟩
  rcases q2 with _ | _
  · go_wp2_with fail
    (with_reducible refine (jsanity_any _).mono ?_)
    rintro e w5 ⟨rfl, hb⟩
    have hb' := below_join b4 hb
    go_wp2
    go_ret
    exact ⟨rfl, hb'⟩
  by_cases hm0 : 64 < n0
  · have hm0i : (64 : Int) < (n0 : Int) := by omega
    go_wp2_with fail
    (with_reducible refine (jsanity_any _).mono ?_)
    rintro e w5 ⟨rfl, hb⟩
    have hb' := below_join b4 hb
    go_wp2
    go_ret
    exact ⟨rfl, hb'⟩
  have hm0i : (n0 : Int) ≤ 64 := by omega
  by_cases hm1 : 64 < n1
  · have hm1i : (64 : Int) < (n1 : Int) := by omega
    go_wp2_with fail
    (with_reducible refine (jsanity_any _).mono ?_)
    rintro e w5 ⟨rfl, hb⟩
    have hb' := below_join b4 hb
    go_wp2
    go_ret
    exact ⟨rfl, hb'⟩
  have hm1i : (n1 : Int) ≤ 64 := by omega
  by_cases hm2 : 64 < n2
  · have hm2i : (64 : Int) < (n2 : Int) := by omega
    go_wp2_with fail
    (with_reducible refine (jsanity_any _).mono ?_)
    rintro e w5 ⟨rfl, hb⟩
    have hb' := below_join b4 hb
    go_wp2
    go_ret
    exact ⟨rfl, hb'⟩
  have hm2i : (n2 : Int) ≤ 64 := by omega
  obtain ⟨n, rfl⟩ : ∃ n : Nat, p = (n : Int) := ⟨p.toNat, by omega⟩
  have h4 : 4 ≤ n := by omega
  have h24 : n ≤ 24 := by omega
  clear hlo hhi hlo' hhi' hm0 hm1 hm2
  obtain ⟨hq10, hqf⟩ := hq1 rfl
  have hLF := (hq2 rfl).2 _ (List.mem_singleton.2 rfl)
  have hn82 : nn ≤ 8200 := hLF.n
  have hk20 : kk ≤ 20 := hLF.k
  have h4i : (4 : Int) ≤ (n : Int) := by omega
  have h24i : (n : Int) ≤ 24 := by omega
  obtain ⟨nb, hnb⟩ : ∃ nb, w4.heap.size = nb := ⟨_, rfl⟩
  have gA := hA4.lt
  have gB := hB4.lt
  have gC := hC4.lt
  rw [hnb] at gA gB gC
  have HW := Lib.hid (fun (w' : World) (h : Below nb w4 w') => below_join b4 (by rw [hnb]; exact h))
  have HA := Lib.hid (fun (w' : World) (h : Below nb w4 w') => hA4.next h gA)
  have HB := Lib.hid (fun (w' : World) (h : Below nb w4 w') => hB4.next h gB)
  have HC := Lib.hid (fun (w' : World) (h : Below nb w4 w') => hC4.next h gC)
  have haf := after_any nb n w4 w4 A c xs h4 (by omega) hq10 hqf (by rw [← hnb]; exact (HS.out.next b4).up b4.size) (Below.refl _ _) (Nat.le_of_eq hnb.symm)
  rw [hN.out] at haf
  clear hA4 hB4 hC4 b4 hq1 hq2 hqf
  go_wp2_with fail
  (with_reducible refine haf.mono ?_)
  rintro e v5 ⟨gj, gd, gp, gm, gr, k, l, B, R, cr, rfl, hk, h5⟩
  clear haf d0 d1 d2
  have hr5 := h5.r
  have ha5 := h5.a
  have hc5 := h5.c
  obtain ⟨x, cj, M, p5, s5, _, b5, g5, z5⟩ := h5.p
  have zr := h5.z
  clear h5
  have c15 := hr5.d.cell (k := 1) rfl
  have hB5 := HB.out v5 b5
  have cB0 := hB5.cell (k := 0) rfl
  have wt0 : IntKind.i64.wrap (t0.toNat : Int) = (t0.toNat : Int) := IntWalk.i64_in _ ⟨by omega, by have := t0.toNat_lt; omega⟩
  have bt0 := t0.toNat_lt
  go_wp2_with fail
  (with_reducible refine (pj_trip (t0.toNat : Int) p5 (by omega) (by omega)).mono ?_)
  rintro e v6 ⟨rfl, p6, ho6⟩
  have s6 := s5.trip (t := (t0.toNat : Int)) (by omega) (by omega)
  simp only [List.mem_cons, List.not_mem_nil, or_false, not_or] at ha5
  have b6 := below_only b5 ho6 (by simp; omega) z5
  have z6 := Nat.le_trans z5 ho6.size
  have hr6 := hr5.only ho6 (by simp; omega) (fun q hq => by have := (hc5 q hq).1; simp at this ⊢; omega)
  have hA6 := HA.out v6 b6
  have hsz6 := ho6.size
  clear p5 s5 ho6 hr5 c15 cB0 hB5 b5
  go_wp2_with (with_reducible refine wpList_get (o := ⟨some 89, .load 75 (.tmp 7), _, _, _, _⟩) (by with_unfolding_all rfl) 75 (.tmp 7) (by with_unfolding_all rfl) ga 0 (by with_unfolding_all rfl) hA6 [.int .i64 kind, .int .i64 nn, .int .i64 kk, .int .u8 (fill.toNat : Int)] (cs_all _) _ (by with_unfolding_all exact hun) (by with_unfolding_all rfl) (by with_unfolding_all exact Try.sizeJ) ?_)
  (with_reducible refine (do_trip kind nn kk fill hn82 hk20 h4 (by omega) (by omega) z6 p6 s6).mono ?_)
  rintro e v7 ⟨gj7, N7, E7, k7, rfl, hk7, T7, ho7⟩
  have huse := s6.use
  have b7 := below_only b6 ho7 (by simp; omega) z6
  have z7 := Nat.le_trans z6 ho7.size
  have hr7 := hr6.only ho7 (by simp; omega) (fun q hq => (hc5 q hq).1)
  have hA7 := HA.out v7 b7
  have hgl7 := p6.p.d.lt
  have hgp7 := p6.p.p.lt
  have hgm7 := p6.p.m.lt
  have hsz7 := ho7.size
  clear p6 s6 hr6 hA6 b6
  go_wp2_with (with_reducible refine wpList_get (o := ⟨some 96, .load 75 (.tmp 7), _, _, _, _⟩) (by with_unfolding_all rfl) 75 (.tmp 7) (by with_unfolding_all rfl) ga 0 (by with_unfolding_all rfl) hA7 [.int .i64 kind, .int .i64 nn, .int .i64 kk, .int .u8 (fill.toNat : Int)] (cs_all _) _ (by with_unfolding_all exact hun) (by with_unfolding_all rfl) (by with_unfolding_all exact Try.sizeJ) ?_)
  (with_reducible refine (jdo_any2 gr R cr (capOf n) l kind nn kk fill _ hn82 hk20 (by unfold capOf at huse; omega) (by unfold capOf; omega) hr7).mono ?_)
  rintro e v8 ⟨rfl, R8, cr8, r8, ho8, hn8⟩
  have hRne : ∀ q, R = some ⟨q, 0, none⟩ → q ∉ [gr] := fun q hq => by have := hr7.n q hq; simpa using this
  have o8 : RowAt v8 R (l.map Value.string) := hr7.r.only ho8 hRne
  have hR8 : ∀ q, R8 = some ⟨q, 0, none⟩ → q ∉ [gd, gp, gm] := fun q hq => by
    rcases hn8 q hq with e1 | ⟨e1, _⟩
    · have := (hc5 q (e1 ▸ hq)).1
      simp at this ⊢; omega
    · simp; omega
  have hRg : ∀ q, R = some ⟨q, 0, none⟩ → q ∉ [gd, gp, gm] := fun q hq => by
    have := (hc5 q hq).1
    simp at this ⊢; omega
  have hgg : gr ∉ [gd, gp, gm] := by simp; omega
  have b8 : Below nb w4 v8 := below_only b7 ho8 (by simp; omega) z7
  have z8 := Nat.le_trans z7 ho8.size
  have hC8 := HC.out v8 b8
  have c80 := hC8.cell (k := 0) rfl
  have hmt := trip_mount T7 ho8 hgg b8 g5.2 z8 P0 c0 k0 (by rw [hn0.out]; omega) (fun w' h => H0.out w' (HW.out w' h))
  rw [hn0.out] at hmt
  clear hr7 hA7 T7 ho7 hn8 hc5
  go_wp2_with fail
  (with_reducible refine hmt.mono ?_)
  rintro e v9 ⟨rfl, ⟨L, d9, hO⟩, ho9⟩
  have r9 := r8.only ho9 hgg hR8
  have o9 := o8.only ho9 hRg
  clear hmt r8 o8 ho8 hC8 c80
  go_wp2
  obtain ⟨m1, hm1, ha1, hb1⟩ : ∃ m1 : Int, (t1.toNat : Int).tmod 4 = m1 ∧ 0 ≤ m1 ∧ m1 ≤ 255 := ⟨_, rfl, by rw [Int.tmod_eq_emod_of_nonneg (by omega)]; omega, by rw [Int.tmod_eq_emod_of_nonneg (by omega)]; omega⟩
  obtain ⟨m2, hm2, ha2, hb2⟩ : ∃ m2 : Int, (t2.toNat : Int).tmod 4 = m2 ∧ 0 ≤ m2 ∧ m2 ≤ 255 := ⟨_, rfl, by rw [Int.tmod_eq_emod_of_nonneg (by omega)]; omega, by rw [Int.tmod_eq_emod_of_nonneg (by omega)]; omega⟩
  have wt1 : IntKind.i64.wrap (t1.toNat : Int) = (t1.toNat : Int) := IntWalk.i64_in _ ⟨by omega, by have := t1.toNat_lt; omega⟩
  have wt2 : IntKind.i64.wrap (t2.toNat : Int) = (t2.toNat : Int) := IntWalk.i64_in _ ⟨by omega, by have := t2.toNat_lt; omega⟩
  go_loopw [23] (SvRel nb n w4 gd gp gm gr k7 l (JM.doL (capOf n) l ⟨kind, nn, kk, fill⟩) L R R8 cr8) (fun v _ => 3 - natOf v)
  case atStart => exact ⟨1, .inl rfl, rfl, d9, r9, o9⟩
  case round =>
    clear d9 r9 o9 ho9
    obtain ⟨j, hj, rfl, d, r, o⟩ := hrel
    have hcB := HB.out _ d.below
    have hcC := HC.out _ d.below
    have cB1 := hcB.cell (k := 1) rfl
    have cB2 := hcB.cell (k := 2) rfl
    rcases hj with rfl | rfl | rfl
    · go_wp2_with fail
      (with_reducible refine (dw_trip m1 d ha1 hb1).mono ?_)
      rintro e va ⟨rfl, da, hoa⟩
      have ra := r.only hoa hgg hR8
      have oa := o.only hoa hRg
      clear d r o hcB hcC cB1 cB2
      go_wp2_with fail
      (with_reducible refine (dw_open da h4 (by omega)).mono ?_)
      rintro e vb ⟨gq, rfl, db, hbb⟩
      have rb := ra.next hbb
      have ob := oa.next hbb
      clear da ra oa
      have hcC := HC.out _ db.below
      have cC1 := hcC.cell (k := 1) rfl
      have hmt := dw_mount P1 c1 k1 db (by rw [hn1.out]; omega) (fun w' h => H1.out w' (HW.out w' h))
      rw [hn1.out] at hmt
      go_wp2_with fail
      (with_reducible refine hmt.mono ?_)
      rintro e vc ⟨rfl, dc, hoc⟩
      have rc := rb.only hoc hgg hR8
      have oc := ob.only hoc hRg
      clear hmt db rb ob hcC cC1 hoc hbb
      go_wp2
      go_roundw
      case rel => exact ⟨2, .inr (.inl rfl), rfl, dc, rc, oc⟩
      case measure => decide
    · go_wp2_with fail
      (with_reducible refine (dw_trip m2 d ha2 hb2).mono ?_)
      rintro e va ⟨rfl, da, hoa⟩
      have ra := r.only hoa hgg hR8
      have oa := o.only hoa hRg
      clear d r o hcB hcC cB1 cB2
      go_wp2_with fail
      (with_reducible refine (dw_open da h4 (by omega)).mono ?_)
      rintro e vb ⟨gq, rfl, db, hbb⟩
      have rb := ra.next hbb
      have ob := oa.next hbb
      clear da ra oa
      have hcC := HC.out _ db.below
      have cC2 := hcC.cell (k := 2) rfl
      have hmt := dw_mount P2 c2 k2 db (by rw [hn2.out]; omega) (fun w' h => H2.out w' (HW.out w' h))
      rw [hn2.out] at hmt
      go_wp2_with fail
      (with_reducible refine hmt.mono ?_)
      rintro e vc ⟨rfl, dc, hoc⟩
      have rc := rb.only hoc hgg hR8
      have oc := ob.only hoc hRg
      clear hmt db rb ob hcC cC2 hoc hbb
      go_wp2
      go_roundw
      case rel => exact ⟨3, .inr (.inr rfl), rfl, dc, rc, oc⟩
      case measure => decide
    · clear hcB hcC cB1 cB2
      go_wp2_with fail
      (with_reducible refine (dw_openlaw d h4 (by omega)).mono ?_)
      rintro e va ⟨ga', A', ca', xa, Ma, rfl, pa, hua, ba, hba⟩
      have ra := r.next hba
      have oa := o.next hba
      clear d r o hba
      go_wp2_with fail
      (with_reducible refine (pj_records pa hua (by omega)).mono ?_)
      rintro e vb ⟨Ab, cb, rfl, hRb, _, hbb⟩
      have rb := ra.next hbb
      have ob := oa.next hbb
      have hwb := HW.out _ (ba.trans (hbb.mono (by have := ba.size; omega)))
      clear ra oa pa ba hbb
      have hl6 : L.length ≤ 1000000 := by have := JM.useR_count L; unfold capOf at hua; omega
      unfold OutM at hO
      generalize JM.doL (capOf n) l ⟨kind, nn, kk, fill⟩ = L2 at hO rb
      generalize JM.doE (capOf n) l ⟨kind, nn, kk, fill⟩ = E2 at hO ⊢
      by_cases h26 : E7 = 0 ∨ E2 ≠ 0
      · obtain rfl : L = L2 := by
          rcases hO with ⟨_, e2⟩ | ⟨e1, e2, _⟩
          · exact e2
          · omega
        by_cases hE0 : E7 = 0
        · subst hE0
          go_wp2_with fail
          (with_reducible refine (jsanity_any _).mono ?_)
          rintro e vc ⟨rfl, hbc⟩
          have rc := rb.next hbc
          have hRc := hRb.next hbc
          have hwc := below_join hwb hbc
          have cc := rc.d.cell (k := 1) rfl
          clear rb hRb hwb hbc ob
          go_wp2_with fail
          (with_reducible refine (same2_any Ab R8 cb cr8 L L vc hl6 hRc rc.r).mono ?_)
          rintro e vd ⟨rfl, hbd⟩
          rw [decide_eq_true rfl]
          have hwd := below_join hwc hbd
          clear hwc hbd rc hRc cc
          go_wp2
          go_ret
          exact ⟨rfl, hwd⟩
        · have hE2 : E2 ≠ 0 := by omega
          have hE0' : (E7 == 0) = false := beq_eq_false_iff_ne.2 hE0
          have hE2' : (E2 == 0) = false := beq_eq_false_iff_ne.2 hE2
          go_wp2_with fail
          (with_reducible refine (jsanity_any _).mono ?_)
          rintro e vc ⟨rfl, hbc⟩
          have rc := rb.next hbc
          have hRc := hRb.next hbc
          have hwc := below_join hwb hbc
          have cc := rc.d.cell (k := 1) rfl
          clear rb hRb hwb hbc ob
          go_wp2_with fail
          (with_reducible refine (same2_any Ab R8 cb cr8 L L vc hl6 hRc rc.r).mono ?_)
          rintro e vd ⟨rfl, hbd⟩
          rw [decide_eq_true rfl]
          have hwd := below_join hwc hbd
          clear hwc hbd rc hRc cc
          go_wp2
          go_ret
          exact ⟨rfl, hwd⟩
      · obtain ⟨rfl, rfl, hL⟩ : E7 = 13 ∧ E2 = 0 ∧ (L = L2 ∨ L = l) := by
          rcases hO with ⟨e1, _⟩ | h
          · omega
          · exact h
        clear h26 hO
        go_wp2_with fail
        (with_reducible refine (jsanity_any _).mono ?_)
        rintro e vc ⟨rfl, hbc⟩
        have rc := rb.next hbc
        have hRc := hRb.next hbc
        have oc := ob.next hbc
        have hwc := below_join hwb hbc
        have cc := rc.d.cell (k := 1) rfl
        clear rb hRb hwb hbc ob
        go_wp2_with fail
        (with_reducible refine (same2_any Ab R8 cb cr8 L L2 vc hl6 hRc rc.r).mono ?_)
        rintro e vd ⟨rfl, hbd⟩
        have hRd := hRc.next hbd
        have od := oc.next hbd
        have hwd := below_join hwc hbd
        clear hwc hbd rc hRc cc oc
        by_cases hLL : L = L2
        · rw [decide_eq_true hLL]
          go_wp2
          go_ret
          exact ⟨rfl, hwd⟩
        · rw [decide_eq_false hLL]
          obtain rfl : L = l := hL.resolve_left hLL
          go_wp2_with fail
          (with_reducible refine (same2_any Ab R cb cr L L vd hl6 hRd od).mono ?_)
          rintro e ve ⟨rfl, hbe⟩
          rw [decide_eq_true rfl]
          have hwe := below_join hwd hbe
          clear hwd hbe hRd od
          go_wp2
          go_ret
          exact ⟨rfl, hwe⟩
end Go.Proofs.Ythgmlopkcgkjlaa
