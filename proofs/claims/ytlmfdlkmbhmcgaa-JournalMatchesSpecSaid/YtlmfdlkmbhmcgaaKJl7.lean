/-
  A call during which the power may fail: what it leaves, and what any Mount leaves of that. Conditions: the journal lies there.
-/
import Derived.Test.YtlmfdlkmbhmcgaaKJl6
namespace Go.Proofs.Ytlmfdlkmbhmcgaa
open Go.RowKit Go.Shelf

/-- Behind any Mount the records are l' or l. -/
def Either2 (M : DM) (n : Nat) (l' l : List ByteArray) : Prop := ∀ picks, (∃ h, JSt (M.mount picks) n h l') ∨ ∃ h, JSt (M.mount picks) n h l
theorem jst_trip {M : DM} {n h : Nat} {l rs : List ByteArray} (s : JSt M n h l) (h4 : 4 ≤ n) :
    (JSt (jM M n h rs false) n (jH M n h rs false) (jL M n h l rs false) ∧ jC M n h rs false = false ∧ jE M n h rs false = (if longIn rs then 2 else if capOf n < JM.useR rs then 12 else 0) ∧ jL M n h l rs false = (if longIn rs then l else if capOf n < JM.useR rs then l else rs)) ∨
    (jE M n h rs false = 13 ∧ (if longIn rs then (2 : Int) else if capOf n < JM.useR rs then 12 else 0) = 0 ∧ (if longIn rs then l else if capOf n < JM.useR rs then l else rs) = rs ∧ (jM M n h rs false).ok ∧ (jM M n h rs false).ps.length = n ∧ (jM M n h rs false).up = false ∧ jH M n h rs false = h ∧ jL M n h l rs false = l ∧ jC M n h rs false = true ∧ Either2 (jM M n h rs false) n rs l) := by
  cases hc : canDo n rs false with
  | true =>
    obtain ⟨hb, hus⟩ := canDo_parts hc
    have e : jM M n h rs false = JM.keepM M (2 + (1 - h) * hpOf n) (1 - h) (JM.stream rs) := by unfold jM; rw [hc]; rfl
    have hnf : ¬ capOf n < JM.useR rs := by omega
    cases hu : (jM M n h rs false).up with
    | true =>
      have hw : jW M n h rs false = true := by unfold jW; rw [hc, hu]; rfl
      have hj := jst_keep s h4 hc hu
      have e1 : jH M n h rs false = 1 - h := by unfold jH; rw [hw]; rfl
      have e2 : jL M n h l rs false = rs := by unfold jL; rw [hw]; rfl
      have e3 : jC M n h rs false = false := by unfold jC; rw [hc, hu]; rfl
      have e4 : jE M n h rs false = 0 := by
        unfold jE
        rw [hb, if_neg hnf, upE_up hu]; rfl
      refine .inl ?_
      rw [e1, e2, e3, e4, hb, if_neg hnf, if_neg hnf]
      exact ⟨hj, rfl, rfl, rfl⟩
    | false =>
      have hw : jW M n h rs false = false := by unfold jW; rw [hc, hu]; rfl
      have e1 : jH M n h rs false = h := by unfold jH; rw [hw]; rfl
      have e2 : jL M n h l rs false = l := by unfold jL; rw [hw]; rfl
      have e3 : jC M n h rs false = true := by unfold jC; rw [hc, hu]; rfl
      have e4 : jE M n h rs false = 13 := by
        unfold jE
        rw [hb, if_neg hnf, upE_down hu]; rfl
      refine .inr ⟨e4, by rw [hb, if_neg hnf]; rfl, by rw [hb, if_neg hnf]; rfl, by rw [e]; exact JM.keepM_ok s.ok _ _ _, by rw [e, JM.keepM_len]; exact s.len, rfl, e1, e2, e3, fun picks => ?_⟩
      rcases survive (rs := rs) s h4 picks with J | ⟨_, J⟩
      · exact .inr ⟨h, J⟩
      · exact .inl ⟨1 - h, J⟩
  | false =>
    have e : jM M n h rs false = M := by unfold jM; rw [hc]; rfl
    have hw : jW M n h rs false = false := by unfold jW; rw [hc]; rfl
    refine .inl ?_
    unfold jH jL jC jE
    rw [hw, hc, e]
    refine ⟨s, rfl, ?_, ?_⟩
    · cases hb : longIn rs with
      | true => rfl
      | false =>
        by_cases hf : capOf n < JM.useR rs
        · rw [if_pos hf, if_pos hf]; rfl
        · unfold canDo at hc
          rw [hb, decide_eq_true (show JM.useR rs ≤ capOf n by omega)] at hc
          cases hc
    · cases hb : longIn rs with
      | true => rfl
      | false =>
        by_cases hf : capOf n < JM.useR rs
        · rw [if_pos hf]; rfl
        · unfold canDo at hc
          rw [hb, decide_eq_true (show JM.useR rs ≤ capOf n by omega)] at hc
          cases hc
/-- What a call leaves: it did what is specified, or the power failed. -/
def TripPost (n0 n : Nat) (v v' : World) (gj gj' gd gp gm cp : Nat) (Y : List Value) (half _k k' : Nat) (l : List ByteArray) (x : OpJ) (E : Int) (A : Option Addr) : Prop :=
  ∃ M' A' c', FreshA A v.heap.size A' ∧
    ((E = JM.doE (capOf n) l x ∧ ∃ h', PJ n0 v' gj' gd gp gm cp Y h' k' A' c' M' (JM.doL (capOf n) l x) false ∧ JSt M' n h' (JM.doL (capOf n) l x)) ∨
     (E = 13 ∧ JM.doE (capOf n) l x = 0 ∧ gj' = gj ∧ PJ n0 v' gj' gd gp gm cp Y half k' A' c' M' l true ∧ M'.ok ∧ M'.ps.length = n ∧ M'.up = false ∧ Either2 M' n (JM.doL (capOf n) l x) l))
theorem do_trip {n0 n : Nat} {v : World} {gj gd gp gm cp : Nat} {Y : List Value} {half k : Nat} {l : List ByteArray} {A : Option Addr} {c : Nat} {M : DM} (kind nn kk : Int) (fill : UInt8) (hn82 : nn ≤ 8200) (hk20 : kk ≤ 20) (h4 : 4 ≤ n) (h40 : n ≤ 40) (hk : k ≤ 800000) (hn0 : n0 ≤ v.heap.size) (p : PJ n0 v gj gd gp gm cp Y half k A c M l false) (s : JSt M n half l) :
    Calls Try.prog 39 #[.pointer (some ⟨gd, 0, none⟩), .pointer (some ⟨gj, 0, none⟩), .agg #[.int .i64 kind, .int .i64 nn, .int .i64 kk, .int .u8 (fill.toNat : Int)]] v fun e v' => ∃ gj' N E k', e = .returned (.tuple #[.pointer (some ⟨gj', 0, none⟩), .int .i64 N, .int .i64 E]) ∧ k' ≤ k + 41 ∧ TripPost n0 n v v' gj gj' gd gp gm cp Y half k k' l ⟨kind, nn, kk, fill⟩ E A ∧ Only [gj, gd, gp, gm] v v' := by
  have hcb : capOf n ≤ 2432 := by unfold capOf; omega
  have hu := s.use
  by_cases h1 : kind = 1
  · subst h1
    obtain ⟨f1, f2⟩ := free_append (n := n) (l := l) (r := (⟨1, nn, kk, fill⟩ : OpJ).text) s.big
    have eL : JM.doL (capOf n) l ⟨1, nn, kk, fill⟩ = JM.appL (capOf n) l (⟨1, nn, kk, fill⟩ : OpJ).text := rfl
    have eE : JM.doE (capOf n) l ⟨1, nn, kk, fill⟩ = JM.appE (capOf n) l (⟨1, nn, kk, fill⟩ : OpJ).text := rfl
    refine (do_append n0 gj half A c l false gd gp gm k cp Y M n nn kk fill _ v hn82 rfl s.h1 s.ok s.len h4 h40 hk (by omega) hn0 p).mono ?_
    rintro e v' ⟨rfl, ⟨A', c', hp, hF⟩, ho⟩
    refine ⟨gj, _, _, k + 41, rfl, Nat.le_refl _, ⟨jM M n half (l ++ [(⟨1, nn, kk, fill⟩ : OpJ).text]) false, A', c', hF, ?_⟩, ho⟩
    rw [eL, eE]
    rcases jst_trip (rs := l ++ [(⟨1, nn, kk, fill⟩ : OpJ).text]) s h4 with ⟨s', e1, e2, e3⟩ | ⟨e1, e2, e3, ok, len, up, eh, el, ec, hE⟩
    · rw [f1] at e2
      rw [f2] at e3
      rw [e1, e3] at hp
      rw [e3] at s'
      exact .inl ⟨e2, _, hp, s'⟩
    · rw [f1] at e2
      rw [f2] at e3
      rw [eh, el, ec] at hp
      rw [e3]
      exact .inr ⟨e1, e2, rfl, hp, ok, len, up, hE⟩
  · by_cases h2 : kind = 2
    · subst h2
      obtain ⟨f1, f2⟩ := free_replace (n := n) (l := l) (rs := (⟨2, nn, kk, fill⟩ : OpJ).texts)
      have eL : JM.doL (capOf n) l ⟨2, nn, kk, fill⟩ = JM.repL (capOf n) l (⟨2, nn, kk, fill⟩ : OpJ).texts := rfl
      have eE : JM.doE (capOf n) l ⟨2, nn, kk, fill⟩ = JM.repE (capOf n) (⟨2, nn, kk, fill⟩ : OpJ).texts := rfl
      refine (do_replace n0 gj half A c l false gd gp gm k cp Y M n nn kk fill v hn82 hk20 s.h1 s.ok s.len h4 h40 hk hn0 p).mono ?_
      rintro e v' ⟨rfl, ⟨A', c', hp, hF⟩, ho⟩
      refine ⟨gj, _, _, k + 41, rfl, Nat.le_refl _, ⟨jM M n half (⟨2, nn, kk, fill⟩ : OpJ).texts false, A', c', hF, ?_⟩, ho⟩
      rw [eL, eE]
      rcases jst_trip (rs := (⟨2, nn, kk, fill⟩ : OpJ).texts) s h4 with ⟨s', e1, e2, e3⟩ | ⟨e1, e2, e3, ok, len, up, eh, el, ec, hE⟩
      · rw [f1] at e2
        rw [f2] at e3
        rw [e1, e3] at hp
        rw [e3] at s'
        exact .inl ⟨e2, _, hp, s'⟩
      · rw [f1] at e2
        rw [f2] at e3
        rw [eh, el, ec] at hp
        rw [e3]
        exact .inr ⟨e1, e2, rfl, hp, ok, len, up, hE⟩
    · have eL : JM.doL (capOf n) l ⟨kind, nn, kk, fill⟩ = l := by unfold JM.doL; rw [if_neg h1, if_neg h2]
      have eE : JM.doE (capOf n) l ⟨kind, nn, kk, fill⟩ = 0 := by unfold JM.doE; rw [if_neg h1, if_neg h2]
      unfold TripPost
      rw [eL, eE]
      by_cases h3 : kind = 3
      · subst h3
        refine (do_open n0 gj half A c l gd gp gm k cp Y M n nn kk fill v s h4 h40 hn0 p).mono ?_
        rintro e v' ⟨gj', B', c', rfl, hp, hle, hlo, hb⟩
        exact ⟨gj', _, _, k, rfl, by omega, ⟨M, B', c', fun q hq => .inr (hlo q hq), .inl ⟨rfl, half, hp, s⟩⟩, Only.of_below hb⟩
      · refine (do_none n0 gj half A c l false gd gp gm k cp Y M kind nn kk fill v h1 h2 h3 p).mono ?_
        rintro e v' ⟨rfl, hp, hb⟩
        exact ⟨gj, _, _, k, rfl, by omega, ⟨M, A, c, fun q hq => .inl hq, .inl ⟨rfl, half, hp, s⟩⟩, Only.of_below hb⟩
/-- A disk that is up and holds the records l. -/
def DW (n0 n : Nat) (w v : World) (gd gp gm cp : Nat) (Y : List Value) (k : Nat) (l : List ByteArray) : Prop :=
  ∃ h M, PRep v gd gp gm cp Y M k ∧ JSt M n h l ∧ Below n0 w v ∧ (n0 ≤ gd ∧ n0 ≤ gp ∧ n0 ≤ gm) ∧ n0 ≤ v.heap.size
section
variable {n0 n : Nat} {w v : World} {gd gp gm cp : Nat} {Y : List Value} {k : Nat} {l : List ByteArray}
theorem DW.next (h : DW n0 n w v gd gp gm cp Y k l) {v' : World} (hb : Below v.heap.size v v') : DW n0 n w v' gd gp gm cp Y k l := by
  obtain ⟨x, M, p, s, b, g, z⟩ := h
  exact ⟨x, M, p.next hb, s, b.trans (hb.mono z), g, Nat.le_trans z hb.size⟩
theorem DW.below (h : DW n0 n w v gd gp gm cp Y k l) : Below n0 w v := by
  obtain ⟨x, M, p, s, b, g, z⟩ := h
  exact b
theorem dw_trip (t : Int) (h : DW n0 n w v gd gp gm cp Y k l) (h1 : 0 ≤ t) (h2 : t ≤ 255) :
    Calls Try.prog 22 #[.pointer (some ⟨gd, 0, none⟩), .int .i64 t] v fun e v' => e = .returned (.tuple #[]) ∧ DW n0 n w v' gd gp gm cp Y k l ∧ Only [gd, gp, gm] v v' := by
  obtain ⟨x, M, p, s, b, g, z⟩ := h
  refine (trip_any gd gp gm k cp Y M t v (by omega) (by omega) p).mono ?_
  rintro e v' ⟨rfl, hp, ho⟩
  exact ⟨rfl, ⟨x, _, hp, s.trip (by omega) (by omega), below_only b ho (by simp; omega) z, g, Nat.le_trans z ho.size⟩, ho.mono (by simp)⟩
theorem dw_open (h : DW n0 n w v gd gp gm cp Y k l) (h4 : 4 ≤ n) (h40 : n ≤ 40) :
    Calls Try.prog 37 #[.pointer (some ⟨gd, 0, none⟩)] v fun e v' => ∃ gj, e = .returned (.tuple #[.pointer (some ⟨gj, 0, none⟩), .int .i64 0]) ∧ DW n0 n w v' gd gp gm cp Y k l ∧ Below v.heap.size v v' := by
  obtain ⟨x, M, p, s, b, g, z⟩ := h
  refine (open_jst n0 x l gd gp gm k cp Y M n v s h4 h40 z p).mono ?_
  rintro e v' ⟨gj, A', c', rfl, hp, hle, hlo, hb⟩
  exact ⟨gj, rfl, ⟨x, M, p.next hb, s, b.trans (hb.mono z), g, Nat.le_trans z hb.size⟩, hb⟩
theorem dw_mount (A : Option Addr) (pc : Nat) (picks : List Int) (h : DW n0 n w v gd gp gm cp Y k l) (hl : picks.length ≤ 1000000) (hP : ∀ w', Below n0 w w' → PkAt w' A picks) :
    Calls Try.prog 27 #[.pointer (some ⟨gd, 0, none⟩), .slice A picks.length pc] v fun e v' => e = .returned (.tuple #[]) ∧ DW n0 n w v' gd gp gm cp Y k l ∧ Only [gd, gp, gm] v v' := by
  obtain ⟨x, M, p, s, b, g, z⟩ := h
  refine (mount_any gd gp gm k cp Y M A pc picks v s.ok p hl (fun w' ho => hP w' (below_only b ho (by simp; omega) z))).mono ?_
  rintro e v' ⟨rfl, hp, ho⟩
  exact ⟨rfl, ⟨x, _, hp, survive_done s picks, below_only b ho (by simp; omega) z, g, Nat.le_trans z ho.size⟩, ho⟩
/-- Open as the laws call it, and the records. -/
theorem dw_openlaw (h : DW n0 n w v gd gp gm cp Y k l) (h4 : 4 ≤ n) (h40 : n ≤ 40) :
    Calls Try.prog 51 #[.pointer (some ⟨gd, 0, none⟩)] v fun e v' => ∃ gj A c x M, e = .returned (.tuple #[.pointer (some ⟨gj, 0, none⟩), .bool true]) ∧ PJ n0 v' gj gd gp gm cp Y x k A c M l false ∧ JM.useR l ≤ capOf n ∧ Below n0 w v' ∧ Below v.heap.size v v' := by
  obtain ⟨x, M, p, s, b, g, z⟩ := h
  refine (openlaw_any n0 x l gd gp gm k cp Y M n v s h4 h40 z p).mono ?_
  rintro e v' ⟨gj, A', c', rfl, hp, hle, hlo, hb⟩
  exact ⟨gj, A', c', x, M, rfl, hp, s.use, b.trans (hb.mono z), hb⟩
end
theorem pj_records {n0 n : Nat} {v : World} {gj gd gp gm cp : Nat} {Y : List Value} {k x : Nat} {l : List ByteArray} {A : Option Addr} {c : Nat} {M : DM} {cl : Bool} (p : PJ n0 v gj gd gp gm cp Y x k A c M l cl) (hu : JM.useR l ≤ capOf n) (h40 : n ≤ 40) : Calls Try.prog 42 #[.pointer (some ⟨gj, 0, none⟩)] v fun e v' => ∃ A' c', e = .returned (.slice A' l.length c') ∧ RowAt v' A' (l.map Value.string) ∧ (∀ q, A' = some ⟨q, 0, none⟩ → v.heap.size ≤ q ∧ q < v'.heap.size) ∧ Below v.heap.size v v' := by
  have hc := JM.useR_count l
  refine (jrecords_any gj gd x A c l cl v (by unfold capOf at hu; omega) p.o.own p.j).mono ?_
  rintro e v' ⟨u, rfl, hown, hb⟩
  obtain ⟨A', c', rfl⟩ := own_shape hown
  exact ⟨A', c', rfl, (own_new hown).1, fun q hq => hown.lt q (by rw [hq]; rfl), hb⟩
end Go.Proofs.Ytlmfdlkmbhmcgaa
