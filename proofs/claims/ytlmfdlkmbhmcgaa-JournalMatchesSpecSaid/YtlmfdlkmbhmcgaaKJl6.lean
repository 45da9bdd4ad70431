/-
  A call on both sides, and the law's after: the journal and the reference behind a script. Conditions: both lie there; few calls.
-/
import Derived.Test.YtlmfdlkmbhmcgaaGzH
import Derived.Test.YtlmfdlkmbhmcgaaKJr7
namespace Go.Proofs.Ytlmfdlkmbhmcgaa
open Go.RowKit Go.Shelf

theorem free_append {n : Nat} {l : List ByteArray} {r : ByteArray} (hb : longIn l = false) :
    (if longIn (l ++ [r]) then (2 : Int) else if capOf n < JM.useR (l ++ [r]) then 12 else 0) = JM.appE (capOf n) l r ∧ (if longIn (l ++ [r]) then l else if capOf n < JM.useR (l ++ [r]) then l else l ++ [r]) = JM.appL (capOf n) l r := by
  rw [long_snoc hb, use_snoc]
  unfold JM.appE JM.appL
  by_cases h1 : 8000 < r.size
  · rw [decide_eq_true h1, if_pos h1, if_pos h1]; exact ⟨rfl, rfl⟩
  · rw [decide_eq_false h1, if_neg h1, if_neg h1]; exact ⟨rfl, rfl⟩
theorem app_num {n : Nat} {l : List ByteArray} {r : ByteArray} : (if JM.appE (capOf n) l r = 0 then l.length else 0) = JM.appN (capOf n) l r := by
  unfold JM.appE JM.appN
  by_cases h1 : 8000 < r.size
  · rw [if_pos h1, if_pos h1]; rfl
  · rw [if_neg h1, if_neg h1]
    by_cases h2 : capOf n < JM.useR l + 2 + r.size
    · rw [if_pos h2, if_pos h2]; rfl
    · rw [if_neg h2, if_neg h2]; rfl
theorem free_replace {n : Nat} {l rs : List ByteArray} :
    (if longIn rs then (2 : Int) else if capOf n < JM.useR rs then 12 else 0) = JM.repE (capOf n) rs ∧ (if longIn rs then l else if capOf n < JM.useR rs then l else rs) = JM.repL (capOf n) l rs := by
  unfold JM.repE JM.repL longIn
  exact ⟨rfl, rfl⟩
/-- A call on the program's side. -/
theorem jw_do {n0 n : Nat} {w v : World} {gj gd gp gm cp : Nat} {Y : List Value} {k : Nat} {l : List ByteArray} {B : Option Addr} (kind nn kk : Int) (fill : UInt8) (hn82 : nn ≤ 8200) (hk20 : kk ≤ 20) (h4 : 4 ≤ n) (h40 : n ≤ 40) (hk : k ≤ 800000) (h : JW n0 n w v gj gd gp gm cp Y k l B) :
    Calls Try.prog 39 #[.pointer (some ⟨gd, 0, none⟩), .pointer (some ⟨gj, 0, none⟩), .agg #[.int .i64 kind, .int .i64 nn, .int .i64 kk, .int .u8 (fill.toNat : Int)]] v fun e v' => ∃ gj' B', e = .returned (.tuple #[.pointer (some ⟨gj', 0, none⟩), .int .i64 (JM.doN (capOf n) l ⟨kind, nn, kk, fill⟩ : Nat), .int .i64 (JM.doE (capOf n) l ⟨kind, nn, kk, fill⟩)]) ∧ JW n0 n w v' gj' gd gp gm cp Y (k + 41) (JM.doL (capOf n) l ⟨kind, nn, kk, fill⟩) B' ∧ FreshA B v.heap.size B' ∧ (gj' = gj ∨ v.heap.size ≤ gj') ∧ Only [gj, gd, gp, gm] v v' := by
  have hJ := h
  obtain ⟨x, c, M, p, s, t, b, g, z⟩ := h
  have hcb : capOf n ≤ 2432 := by unfold capOf; omega
  have hu := s.use
  by_cases h1 : kind = 1
  · subst h1
    obtain ⟨s', t', e1, e2, e3⟩ := jst_free (rs := l ++ [(⟨1, nn, kk, fill⟩ : OpJ).text]) s h4 t
    obtain ⟨f1, f2⟩ := free_append (n := n) (l := l) (r := (⟨1, nn, kk, fill⟩ : OpJ).text) s.big
    rw [f1] at e2
    rw [f2] at e3
    refine (do_append n0 gj x B c l false gd gp gm k cp Y M n nn kk fill _ v hn82 rfl s.h1 s.ok s.len h4 h40 hk (by omega) z p).mono ?_
    rintro e v' ⟨rfl, ⟨B', c', hp, hF⟩, ho⟩
    rw [e1, e3] at hp
    rw [e3] at s'
    have eL : JM.doL (capOf n) l ⟨1, nn, kk, fill⟩ = JM.appL (capOf n) l (⟨1, nn, kk, fill⟩ : OpJ).text := rfl
    have eE : JM.doE (capOf n) l ⟨1, nn, kk, fill⟩ = JM.appE (capOf n) l (⟨1, nn, kk, fill⟩ : OpJ).text := rfl
    have eN : JM.doN (capOf n) l ⟨1, nn, kk, fill⟩ = JM.appN (capOf n) l (⟨1, nn, kk, fill⟩ : OpJ).text := rfl
    refine ⟨gj, B', ?_, ?_, hF, .inl rfl, ho⟩
    · unfold jN
      rw [e2, app_num, eE, eN]
    · rw [eL]; exact hJ.after hp s' t' ho
  · by_cases h2 : kind = 2
    · subst h2
      obtain ⟨s', t', e1, e2, e3⟩ := jst_free (rs := (⟨2, nn, kk, fill⟩ : OpJ).texts) s h4 t
      obtain ⟨f1, f2⟩ := free_replace (n := n) (l := l) (rs := (⟨2, nn, kk, fill⟩ : OpJ).texts)
      rw [f1] at e2
      rw [f2] at e3
      refine (do_replace n0 gj x B c l false gd gp gm k cp Y M n nn kk fill v hn82 hk20 s.h1 s.ok s.len h4 h40 hk z p).mono ?_
      rintro e v' ⟨rfl, ⟨B', c', hp, hF⟩, ho⟩
      rw [e1, e3] at hp
      rw [e3] at s'
      have eL : JM.doL (capOf n) l ⟨2, nn, kk, fill⟩ = JM.repL (capOf n) l (⟨2, nn, kk, fill⟩ : OpJ).texts := rfl
      have eE : JM.doE (capOf n) l ⟨2, nn, kk, fill⟩ = JM.repE (capOf n) (⟨2, nn, kk, fill⟩ : OpJ).texts := rfl
      have eN : JM.doN (capOf n) l ⟨2, nn, kk, fill⟩ = 0 := rfl
      refine ⟨gj, B', ?_, ?_, hF, .inl rfl, ho⟩
      · rw [e2, eE, eN]; rfl
      · rw [eL]; exact hJ.after hp s' t' ho
    · have eL : JM.doL (capOf n) l ⟨kind, nn, kk, fill⟩ = l := by unfold JM.doL; rw [if_neg h1, if_neg h2]
      have eE : JM.doE (capOf n) l ⟨kind, nn, kk, fill⟩ = 0 := by unfold JM.doE; rw [if_neg h1, if_neg h2]
      have eN : JM.doN (capOf n) l ⟨kind, nn, kk, fill⟩ = 0 := by unfold JM.doN; rw [if_neg h1]
      rw [eL, eE, eN]
      by_cases h3 : kind = 3
      · subst h3
        refine (do_open n0 gj x B c l gd gp gm k cp Y M n nn kk fill v s h4 h40 z p).mono ?_
        rintro e v' ⟨gj', B', c', rfl, hp, hle, hlo, hb⟩
        exact ⟨gj', B', rfl, ⟨x, c', M, ⟨hp.p.mono (by omega), hp.j, hp.o, hp.al, hp.dj, hp.ad⟩, s, t, b.trans (hb.mono z), ⟨by omega, g.2⟩, Nat.le_trans z hb.size⟩, fun q hq => .inr (hlo q hq), .inr hle, Only.of_below hb⟩
      · refine (do_none n0 gj x B c l false gd gp gm k cp Y M kind nn kk fill v h1 h2 h3 p).mono ?_
        rintro e v' ⟨rfl, hp, hb⟩
        exact ⟨gj, B, rfl, ⟨x, c, M, ⟨hp.p.mono (by omega), hp.j, hp.o, hp.al, hp.dj, hp.ad⟩, s, t, b.trans (hb.mono z), g, Nat.le_trans z hb.size⟩, fun q hq => .inl hq, .inl rfl, Only.of_below hb⟩
/-- The journal and the reference, side by side. -/
structure JWR (n0 n : Nat) (w v : World) (gj gd gp gm cp : Nat) (Y : List Value) (k : Nat) (l : List ByteArray) (B : Option Addr) (gr : Nat) (R : Option Addr) (cr : Nat) : Prop where
  p : JW n0 n w v gj gd gp gm cp Y k l B
  r : JRef v gr R cr (capOf n) l
  a : gr ∉ [gj, gd, gp, gm]
  b : B ≠ some ⟨gr, 0, none⟩
  c : ∀ q, R = some ⟨q, 0, none⟩ → q ∉ [gj, gd, gp, gm] ∧ q < v.heap.size
  z : n0 ≤ gr
theorem JWR.next {n0 n : Nat} {w v v' : World} {gj gd gp gm cp : Nat} {Y : List Value} {k : Nat} {l : List ByteArray} {B : Option Addr} {gr : Nat} {R : Option Addr} {cr : Nat} (h : JWR n0 n w v gj gd gp gm cp Y k l B gr R cr) (hb : Below v.heap.size v v') : JWR n0 n w v' gj gd gp gm cp Y k l B gr R cr :=
  ⟨h.p.next hb, h.r.next hb, h.a, h.b, fun q hq => ⟨(h.c q hq).1, Nat.lt_of_lt_of_le (h.c q hq).2 hb.size⟩, h.z⟩
/-- What the program's call leaves of both. -/
theorem JWR.prog {n0 n : Nat} {w v v' : World} {gj gj' gd gp gm cp : Nat} {Y : List Value} {k k' : Nat} {l l' : List ByteArray} {B B' : Option Addr} {gr : Nat} {R : Option Addr} {cr : Nat} (h : JWR n0 n w v gj gd gp gm cp Y k l B gr R cr) (_hp : JW n0 n w v' gj' gd gp gm cp Y k' l' B') (hF : FreshA B v.heap.size B') (hg : gj' = gj ∨ v.heap.size ≤ gj') (ho : Only [gj, gd, gp, gm] v v') :
    JRef v' gr R cr (capOf n) l ∧ gr ∉ [gj', gd, gp, gm] ∧ B' ≠ some ⟨gr, 0, none⟩ ∧ (∀ q, R = some ⟨q, 0, none⟩ → q ∉ [gj', gd, gp, gm] ∧ q < v'.heap.size) := by
  have hgl := h.r.d.lt
  have ha := h.a
  refine ⟨h.r.only ho h.a (fun q hq => (h.c q hq).1), ?_, ?_, fun q hq => ⟨?_, Nat.lt_of_lt_of_le (h.c q hq).2 ho.size⟩⟩
  · simp at ha ⊢
    rcases hg with rfl | hg
    · exact ha
    · omega
  · intro e
    rcases hF gr e with e1 | e1
    · exact h.b e1
    · omega
  · have hc := h.c q hq
    have hc1 := hc.1
    simp at hc1 ⊢
    rcases hg with rfl | hg
    · exact hc1
    · omega
theorem results_tmp4 {fn : Func} {t u v z : Tmp} (h : fn.results = #[.tmp t, .tmp u, .tmp v, .tmp z]) (tmps : Array Value) (P : Program) (w : World) :
    (results fn tmps).run P w = .ok (.tuple #[tmps.getD t undef, tmps.getD u undef, tmps.getD v undef, tmps.getD z undef]) w := by
  simp [results, h]
def scrTo (n : Nat) : List OpJ → List ByteArray → List ByteArray
  | [], l => l
  | x :: xs, l => scrTo n xs (JM.doL (capOf n) l x)
def AfRel (n0 n : Nat) (w : World) (gd gp gm gr : Nat) (N : Nat) (jv iv : Value) (wr : World) : Prop :=
  ∃ (j gj k : Nat) (l : List ByteArray) (B R : Option Addr) (cr : Nat), j ≤ N ∧ iv = .int .i64 (j : Int) ∧ jv = .pointer (some ⟨gj, 0, none⟩) ∧ k ≤ 41 * j ∧ JWR n0 n w wr gj gd gp gm n [] k l B gr R cr
set_option maxRecDepth 100000 in
set_option maxHeartbeats 3200000 in
theorem after_any (n0 n : Nat) (w v : World) (A : Option Addr) (c : Nat) (xs : List OpJ) (h4 : 4 ≤ n) (h40 : n ≤ 40) (hl : xs.length ≤ 10) (hf : ∀ x ∈ xs, x.few) (hS : ScriptJ n0 w A xs) (hb : Below n0 w v) (hs : n0 ≤ v.heap.size) :
    Calls Try.prog 52 #[.int .i64 (n : Int), .slice A xs.length c] v fun e v' => ∃ gj gd gp gm gr k l B R cr, e = .returned (.tuple #[.pointer (some ⟨gd, 0, none⟩), .pointer (some ⟨gj, 0, none⟩), .pointer (some ⟨gr, 0, none⟩), .bool true]) ∧ k ≤ 500 ∧ JWR n0 n w v' gj gd gp gm n [] k l B gr R cr := by
  have HS := Lib.hid hS
  have HF := Lib.hid hf
  obtain ⟨N, hN⟩ : ∃ N, Hid (xs.length = N) := ⟨_, rfl⟩
  rw [hN.out] at hl ⊢
  have hcb : capOf n ≤ 2432 := by unfold capOf; omega
  clear hS hf
  go_enter Try.func52, Try.ntmps52
  go_wp2_with fail
  (with_reducible refine (jw_fresh n w v n0 h4 h40 hb hs).mono ?_)
  rintro e v1 ⟨gd, gp, gm, gj, B, rfl, h1, hb1⟩
  clear hb hs
  go_wp2_with fail
  (with_reducible refine (jnew_any n _ h4 h40).mono ?_)
  rintro e v2 ⟨gr, rfl, hr, hb2, hgr⟩
  have hlt := h1.lt
  have hBl := h1.addr
  have hbig := h1.big
  have h2 : JWR n0 n w v2 gj gd gp gm n [] 0 [] B gr none 0 := ⟨h1.next hb2, hr, by simp; omega, fun e => by have := hBl gr e; omega, fun q hq => (by cases hq), by omega⟩
  clear h1 hr hb1 hb2 hgr hlt hBl hbig
  go_wp2
  go_loopw [9, 13] (AfRel n0 n w gd gp gm gr N) (fun _ i _ => N - natOf i)
  case atStart => exact ⟨0, gj, 0, [], B, none, 0, Nat.zero_le _, rfl, rfl, Nat.le_refl _, h2⟩
  case round =>
    clear h2
    obtain ⟨j, gj', k, l, B', R, cr, hj, rfl, rfl, hk, h⟩ := hrel
    by_cases hjn : j < N
    · have hji : (j : Int) < (N : Int) := by omega
      obtain ⟨x, hx⟩ : ∃ x, xs[j]? = some x := ⟨_, List.getElem?_eq_getElem (by rw [hN.out]; exact hjn)⟩
      obtain ⟨p, rfl, hcw⟩ := HS.out j x hx
      have hfx := HF.out x (List.mem_of_getElem? hx)
      obtain ⟨kind, nn, kk, fill⟩ := x
      have hn82 : nn ≤ 8200 := hfx.n
      have hk20 : kk ≤ 20 := hfx.k
      have hBw : Below n0 w wr := by obtain ⟨_, _, _, _, _, _, b, _, _⟩ := h.p; exact b
      have hc := hcw wr hBw
      have HCW := Lib.hid hcw
      have hun := Try.underlying75
      have huse := h.p.use
      have hc' : ∀ (q : Nat) (u : Value), [Value.int .i64 kind, .int .i64 nn, .int .i64 kk, .int .u8 (fill.toNat : Int)][q]? = some u → wr.cell? ((p.add (j * 4)).add q) = some u := hc
      clear hx hj hcw hfx hc
      go_wp2_with (with_reducible refine wpList_load_add (op := ⟨some 52, .load 75 (.tmp 51), _, _, _, _⟩) (by with_unfolding_all rfl) 75 (.tmp 51) (by with_unfolding_all rfl) (p.add (j * 4)) (by with_unfolding_all rfl) [.int .i64 kind, .int .i64 nn, .int .i64 kk, .int .u8 (fill.toNat : Int)] _ hc' hun (by with_unfolding_all rfl) (by with_unfolding_all exact Try.sizeJ) ?_)
      go_wp2_with fail
      (with_reducible refine (jw_do kind nn kk fill hn82 hk20 h4 h40 (by omega) h.p).mono ?_)
      rintro e v3 ⟨g3, B3, rfl, h3, hF3, hg3, ho3⟩
      obtain ⟨r3, a3, b3, c3⟩ := h.prog h3 hF3 hg3 ho3
      have z3 := h.z
      have hBw3 : Below n0 w v3 := by obtain ⟨_, _, _, _, _, _, b, _, _⟩ := h3; exact b
      have hc3 : ∀ (q : Nat) (u : Value), [Value.int .i64 kind, .int .i64 nn, .int .i64 kk, .int .u8 (fill.toNat : Int)][q]? = some u → v3.cell? ((p.add (j * 4)).add q) = some u := HCW.out v3 hBw3
      clear h hF3 hg3 ho3 hc'
      go_wp2_with (with_reducible refine wpList_load_add (op := ⟨some 62, .load 75 (.tmp 61), _, _, _, _⟩) (by with_unfolding_all rfl) 75 (.tmp 61) (by with_unfolding_all rfl) (p.add (j * 4)) (by with_unfolding_all rfl) [.int .i64 kind, .int .i64 nn, .int .i64 kk, .int .u8 (fill.toNat : Int)] _ hc3 hun (by with_unfolding_all rfl) (by with_unfolding_all exact Try.sizeJ) ?_)
      go_wp2_with fail
      (with_reducible refine (jdo_any2 gr R cr (capOf n) l kind nn kk fill _ hn82 hk20 (by omega) (by omega) r3).mono ?_)
      rintro e v4 ⟨rfl, R4, cr4, r4, ho4, hn4⟩
      have hsz3 : ∀ q, q ∈ [g3, gd, gp, gm] → q < v3.heap.size := by
        have := h3.lt
        intro q hq
        simp only [List.mem_cons, List.not_mem_nil, or_false] at hq
        rcases hq with rfl | rfl | rfl | rfl <;> omega
      have h4' : JWR n0 n w v4 g3 gd gp gm n [] (k + 41) (JM.doL (capOf n) l ⟨kind, nn, kk, fill⟩) B3 gr R4 cr4 := by
        refine ⟨h3.only ho4 (by intro q hq; simp only [List.mem_singleton] at hq; subst hq; exact ⟨z3, a3, b3⟩), r4, a3, b3, fun q hq => ?_, z3⟩
        rcases hn4 q hq with e1 | ⟨e1, e2⟩
        · exact ⟨(c3 q (e1 ▸ hq)).1, Nat.lt_of_lt_of_le (c3 q (e1 ▸ hq)).2 ho4.size⟩
        · exact ⟨fun hm => by have := hsz3 q hm; omega, e2⟩
      clear h3 r3 r4 ho4 hn4 hc3 c3
      generalize JM.doE (capOf n) l ⟨kind, nn, kk, fill⟩ = E at *
      go_wp2
      go_roundw
      case rel => exact ⟨j + 1, g3, k + 41, _, B3, R4, cr4, by omega, by go_num, rfl, by omega, h4'⟩
      case measure => simp [natOf]; omega
    · obtain rfl : j = N := by omega
      go_wp2
      (try simp only [Exit.inBlock, Exit.then])
      refine bodyPost_ret (results_tmp4 rfl _ _ _) rfl ?_
      exact ⟨gj', gd, gp, gm, gr, k, l, B', R, cr, rfl, by omega, h⟩
end Go.Proofs.Ytlmfdlkmbhmcgaa
