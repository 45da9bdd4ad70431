/-
  Contracts of the functions that the statement calls, part 29 of 37 (merged texts: Jk1, Jk2, Jk3). Conditions: as the head of each part says.
-/
import Derived.Test.YthgmlopkcgkjlaaGzA
import Derived.Test.YthgmlopkcgkjlaaGzB

/-
  What a call of the journal writes, in plain words: pieces, head, mark. Conditions: none.
-/
namespace Go.Proofs.Ythgmlopkcgkjlaa
open Go.RowKit Go.Shelf

def upE (M : DM) : Int := if M.up then 0 else 13
theorem upE_up {M : DM} (h : M.up = true) : upE M = 0 := by unfold upE; rw [h]; rfl
theorem upE_down {M : DM} (h : M.up = false) : upE M = 13 := by unfold upE; rw [h]; rfl
theorem write_upE {M : DM} {i a : Int} {s : List UInt8} (hb : (M.okP i && DM.fits a s.length) = true) : M.writeE i a s = upE (M.write i a s) := by
  cases h : M.up with
  | false =>
    obtain ⟨e1, e2⟩ := write_down (i := i) (a := a) (s := s) h
    rw [e1, e2, upE_down h]
  | true =>
    cases hs : M.step.up with
    | false =>
      obtain ⟨e1, e2⟩ := write_trip h hb hs
      rw [e1, e2, upE_down hs]
    | true =>
      obtain ⟨e1, e2⟩ := write_good h hb hs
      rw [e1, e2]
      exact (upE_up (M := M.step.set _ _) hs).symm
theorem flush_upE (M : DM) : M.flushE = upE M.flush := by
  cases h : M.up with
  | false =>
    obtain ⟨e1, e2⟩ := flush_down h
    rw [e1, e2, upE_down h]
  | true =>
    cases hs : M.step.up with
    | false =>
      obtain ⟨e1, e2⟩ := flush_trip h hs
      rw [e1, e2, upE_down hs]
    | true =>
      obtain ⟨e1, e2⟩ := flush_good h hs
      rw [e1, e2]
      exact (upE_up (M := M.step.settled) hs).symm
/-- A Write that is in range, of which the disk comes out up. -/
theorem write_was {M : DM} {i a : Int} {s : List UInt8} (hb : (M.okP i && DM.fits a s.length) = true) (hu : (M.write i a s).up = true) : M.up = true ∧ M.write i a s = M.step.set i.toNat ⟨(M.page i.toNat).old, some (DM.put (M.page i.toNat).now a.toNat s)⟩ := by
  cases h : M.up with
  | false =>
    rw [(write_down (i := i) (a := a) (s := s) h).2, h] at hu; cases hu
  | true =>
    cases hs : M.step.up with
    | false =>
      rw [(write_trip h hb hs).2, hs] at hu; cases hu
    | true => exact ⟨rfl, (write_good h hb hs).2⟩
theorem flush_was {M : DM} (hu : M.flush.up = true) : M.up = true ∧ M.flush = M.step.settled := by
  cases h : M.up with
  | false =>
    rw [(flush_down h).2, h] at hu; cases hu
  | true =>
    cases hs : M.step.up with
    | false =>
      rw [(flush_trip h hs).2, hs] at hu; cases hu
    | true => exact ⟨rfl, (flush_good h hs).2⟩
theorem write_len (M : DM) (i a : Int) (s : List UInt8) : (M.write i a s).ps.length = M.ps.length := by
  unfold DM.write
  split
  · split
    · split
      · rw [DM.set_len, DM.step_ps]
      · rw [DM.step_ps]
    · rfl
  · rfl
theorem flush_len (M : DM) : M.flush.ps.length = M.ps.length := by
  unfold DM.flush
  split
  · split
    · show (M.ps.map _).length = _
      rw [List.length_map]
    · rw [DM.step_ps]
  · rfl
theorem okP_in {M : DM} {i : Nat} (h : i < M.ps.length) : M.okP (i : Int) = true := by
  unfold DM.okP
  exact decide_eq_true ⟨by omega, by omega⟩
theorem fits_in {a n : Nat} (h : a + n ≤ 128) : DM.fits (a : Int) n = true := by
  unfold DM.fits
  exact decide_eq_true ⟨by omega, by omega⟩
theorem both_in {M : DM} {i a n : Nat} (h : i < M.ps.length) (h2 : a + n ≤ 128) : (M.okP (i : Int) && DM.fits (a : Int) n) = true := by rw [okP_in h, fits_in h2]; rfl
namespace JM
def fillTo (M : DM) (f : Nat) (S : List UInt8) : Nat → DM
  | 0 => M
  | j + 1 => (fillTo M f S j).write ((f + j : Nat) : Int) 0 (piece S j)
theorem fillTo_len (M : DM) (f : Nat) (S : List UInt8) : ∀ j, (fillTo M f S j).ps.length = M.ps.length
  | 0 => rfl
  | j + 1 => by unfold fillTo; rw [write_len, fillTo_len M f S j]
theorem fillTo_ok {M : DM} (h : M.ok) (f : Nat) (S : List UInt8) : ∀ j, (fillTo M f S j).ok
  | 0 => h
  | j + 1 => DM.write_ok (fillTo_ok h f S j) _ _ _
theorem fillTo_down {M : DM} {f : Nat} {S : List UInt8} {j : Nat} (h : (fillTo M f S j).up = false) : ∀ d, fillTo M f S (j + d) = fillTo M f S j
  | 0 => rfl
  | d + 1 => by
    show (fillTo M f S (j + d)).write _ 0 _ = _
    rw [fillTo_down h d, (write_down h).2]
def headM (M : DM) (f x : Nat) (S : List UInt8) : DM := (fillTo M f S (pcs S)).write 1 ((x * 16 : Nat) : Int) (headB S.length (sumF 0 S))
def fillM (M : DM) (f x : Nat) (S : List UInt8) : DM := (headM M f x S).flush
def markL (x : Nat) : List UInt8 := [if x = 0 then 0 else 255]
def markM (M : DM) (f x : Nat) (S : List UInt8) : DM := (fillM M f x S).write 0 0 (markL x)
def keepM (M : DM) (f x : Nat) (S : List UInt8) : DM := (markM M f x S).flush
theorem headM_len (M : DM) (f x : Nat) (S : List UInt8) : (headM M f x S).ps.length = M.ps.length := by unfold headM; rw [write_len, fillTo_len]
theorem fillM_len (M : DM) (f x : Nat) (S : List UInt8) : (fillM M f x S).ps.length = M.ps.length := by unfold fillM; rw [flush_len, headM_len]
theorem markM_len (M : DM) (f x : Nat) (S : List UInt8) : (markM M f x S).ps.length = M.ps.length := by unfold markM; rw [write_len, fillM_len]
theorem keepM_len (M : DM) (f x : Nat) (S : List UInt8) : (keepM M f x S).ps.length = M.ps.length := by unfold keepM; rw [flush_len, markM_len]
theorem headM_ok {M : DM} (h : M.ok) (f x : Nat) (S : List UInt8) : (headM M f x S).ok := DM.write_ok (fillTo_ok h _ _ _) _ _ _
theorem fillM_ok {M : DM} (h : M.ok) (f x : Nat) (S : List UInt8) : (fillM M f x S).ok := DM.flush_ok (headM_ok h _ _ _)
theorem markM_ok {M : DM} (h : M.ok) (f x : Nat) (S : List UInt8) : (markM M f x S).ok := DM.write_ok (fillM_ok h _ _ _) _ _ _
theorem keepM_ok {M : DM} (h : M.ok) (f x : Nat) (S : List UInt8) : (keepM M f x S).ok := DM.flush_ok (markM_ok h _ _ _)
theorem headB_length (z s : Nat) : (headB z s).length = 16 := stage2_length _ _ 8
end JM
theorem markB_list (x : Nat) : (markB x).data.toList = JM.markL x := by
  unfold markB JM.markL
  split <;> rfl
theorem turn_keep (M : DM) (f x : Nat) (S : List UInt8) (h0 : 0 < M.ps.length) : turnM (JM.fillM M f x S) x = JM.keepM M f x S ∧ turnE (JM.fillM M f x S) x = upE (JM.keepM M f x S) := by
  have hb : ((JM.fillM M f x S).okP 0 && DM.fits 0 (JM.markL x).length) = true := both_in (i := 0) (a := 0) (by rw [JM.fillM_len]; exact h0) (by show 0 + 1 ≤ 128; omega)
  unfold turnM turnE JM.keepM JM.markM
  rw [markB_list, write_upE hb]
  by_cases hu : ((JM.fillM M f x S).write 0 0 (JM.markL x)).up = true
  · rw [upE_up hu, if_pos rfl, if_pos rfl, flush_upE]
    exact ⟨rfl, rfl⟩
  · have hd : ((JM.fillM M f x S).write 0 0 (JM.markL x)).up = false := by simpa using hu
    rw [upE_down hd, if_neg (by decide), if_neg (by decide), (flush_down hd).2, upE_down hd]
    exact ⟨rfl, rfl⟩
end Go.Proofs.Ythgmlopkcgkjlaa

/-
  What a disk holds before, during and after a call of the journal, in plain words. Conditions: none.
-/
namespace Go.Proofs.Ythgmlopkcgkjlaa
open Go.RowKit Go.Shelf

def Clean (M : DM) : Prop := ∀ i, (M.page i).new = none
/-- What a failure may leave of a page. -/
def Torn (p : Pg) (b : List UInt8) : Prop := ∃ c, b = (p.settle c).old
theorem torn_none {p : Pg} {b : List UInt8} (h : p.new = none) (t : Torn p b) : b = p.old := by
  obtain ⟨c, rfl⟩ := t
  unfold Pg.settle
  rw [h]
theorem torn_some {p : Pg} {b l : List UInt8} (h : p.new = some l) (t : Torn p b) : ∃ c, b = l.take c ++ p.old.drop c := by
  obtain ⟨c, rfl⟩ := t
  refine ⟨c, ?_⟩
  unfold Pg.settle
  rw [h]
theorem mix_at (l o : List UInt8) (c i : Nat) (hl : l.length = 128) (ho : o.length = 128) : (l.take c ++ o.drop c)[i]? = if i < c then l[i]? else o[i]? := by
  rw [List.getElem?_append, List.length_take, hl]
  by_cases h : i < c
  · by_cases h2 : i < 128
    · rw [if_pos (by omega), if_pos h, List.getElem?_take_of_lt h]
    · rw [if_neg (by omega), if_pos h, List.getElem?_drop, List.getElem?_eq_none (by omega), List.getElem?_eq_none (by omega)]
  · rw [if_neg (by omega), if_neg h, List.getElem?_drop]
    by_cases h2 : c ≤ 128
    · rw [show c + (i - min c 128) = i by omega]
    · rw [List.getElem?_eq_none (by omega), List.getElem?_eq_none (by omega)]
theorem put_at (l s : List UInt8) (a i : Nat) (h : a + s.length ≤ l.length) : (DM.put l a s)[i]? = if i < a then l[i]? else if i < a + s.length then s[i - a]? else l[i]? := by
  unfold DM.put
  rw [List.getElem?_append, List.getElem?_append, List.length_append, List.length_take, Nat.min_eq_left (by omega)]
  by_cases h1 : i < a
  · rw [if_pos (by omega), if_pos h1, if_pos h1, List.getElem?_take_of_lt h1]
  · by_cases h2 : i < a + s.length
    · rw [if_pos h2, if_neg h1, if_neg h1, if_pos h2]
    · rw [if_neg h2, if_neg h1, if_neg h2, List.getElem?_drop, show a + s.length + (i - (a + s.length)) = i by omega]
/-- Contents c of the pages hold the records l in the half h. -/
structure JDc (c : Nat → List UInt8) (n h : Nat) (l : List ByteArray) : Prop where
  mark : (c 0)[0]? = some (if h = 0 then 0 else 255)
  head : ∀ i, i < 16 → (c 1)[h * 16 + i]? = (JM.headB (JM.stream l).length (JM.sumF 0 (JM.stream l)))[i]?
  body : ∀ j, 128 * j < (JM.stream l).length → (c (2 + h * hpOf n + j)).take (min 128 ((JM.stream l).length - 128 * j)) = JM.piece (JM.stream l) j
theorem jdc_same {a b : Nat → List UInt8} {n h : Nat} {l : List ByteArray} (hl : JM.useR l ≤ capOf n) (J : JDc a n h l) (h0 : (b 0)[0]? = (a 0)[0]?) (h1 : ∀ i, i < 16 → (b 1)[h * 16 + i]? = (a 1)[h * 16 + i]?) (h2 : ∀ j, j < hpOf n → b (2 + h * hpOf n + j) = a (2 + h * hpOf n + j)) : JDc b n h l :=
  ⟨h0.trans J.mark, fun i hi => (h1 i hi).trans (J.head i hi), fun j hj => by
    have h3 : j < hpOf n := by
      rw [JM.stream_length] at hj
      unfold capOf at hl
      unfold hpOf
      omega
    rw [h2 j h3]; exact J.body j hj⟩
theorem write_page_ne {M : DM} {i k : Nat} {a : Int} {s : List UInt8} (h : k ≠ i) : (M.write (i : Int) a s).page k = M.page k := by
  unfold DM.write
  split
  · split
    · split
      · rw [Int.toNat_natCast, page_set_ne (fun e => h e.symm), DM.page_step]
      · rw [DM.page_step]
    · rfl
  · rfl
theorem write_page_self {M : DM} {i a : Nat} {s : List UInt8} (hi : i < M.ps.length) : (M.write (i : Int) (a : Int) s).page i = M.page i ∨ (M.write (i : Int) (a : Int) s).page i = ⟨(M.page i).old, some (DM.put (M.page i).now a s)⟩ := by
  unfold DM.write
  split
  · split
    · split
      · rw [Int.toNat_natCast, Int.toNat_natCast, page_set_self (by rw [DM.step_ps]; exact hi)]
        exact .inr rfl
      · rw [DM.page_step]; exact .inl rfl
    · exact .inl rfl
  · exact .inl rfl
theorem settled_page (M : DM) (k : Nat) (hk : k < M.ps.length) : M.settled.page k = (M.page k).settle 128 := by
  unfold DM.page DM.settled
  rw [List.getD_eq_getElem?_getD, List.getD_eq_getElem?_getD, List.getElem?_map, List.getElem?_eq_getElem hk]; rfl
theorem step_settled_page (M : DM) (k : Nat) (hk : k < M.ps.length) : M.step.settled.page k = (M.page k).settle 128 := by
  rw [settled_page _ _ (by rw [DM.step_ps]; exact hk), DM.page_step]
theorem settle_clean {p : Pg} (h : p.new = none) (c : Nat) : p.settle c = p := by
  unfold Pg.settle
  rw [h]
theorem flush_page (M : DM) (k : Nat) (hk : k < M.ps.length) : M.flush.page k = M.page k ∨ M.flush.page k = (M.page k).settle 128 := by
  cases h : M.up with
  | false => rw [(flush_down h).2]; exact .inl rfl
  | true =>
    cases hs : M.step.up with
    | false => rw [(flush_trip h hs).2, DM.page_step]; exact .inl rfl
    | true => rw [(flush_good h hs).2, step_settled_page _ _ hk]; exact .inr rfl
theorem page_out {M : DM} {k : Nat} (hk : M.ps.length ≤ k) : M.page k = ⟨[], none⟩ := by
  unfold DM.page
  rw [List.getD_eq_getElem?_getD, List.getElem?_eq_none hk]; rfl
theorem settled_clean (M : DM) : Clean M.step.settled := fun k => by
  by_cases hk : k < M.ps.length
  · rw [step_settled_page _ _ hk]; exact settle_none _
  · rw [page_out (by rw [settled_len, DM.step_ps]; omega)]
section
variable {M : DM} {n x h : Nat} {S : List UInt8}
theorem fillTo_page (f k : Nat) : ∀ j, (∀ i, i < j → k ≠ f + i) → (JM.fillTo M f S j).page k = M.page k
  | 0, _ => rfl
  | j + 1, hk => by
    unfold JM.fillTo
    rw [write_page_ne (hk j (Nat.lt_succ_self _)), fillTo_page f k j (fun i hi => hk i (by omega))]
theorem fillTo_was (hn : M.ps.length = n) (f : Nat) : ∀ j, f + j ≤ n → (JM.fillTo M f S j).up = true → ∀ i, i < j → (JM.fillTo M f S j).page (f + i) = ⟨(M.page (f + i)).old, some (DM.put (M.page (f + i)).now 0 (JM.piece S i))⟩
  | 0, _, _, i, hi => absurd hi (Nat.not_lt_zero _)
  | j + 1, hj, hu, i, hi => by
    have hb : ((JM.fillTo M f S j).okP ((f + j : Nat) : Int) && DM.fits ((0 : Nat) : Int) (JM.piece S j).length) = true := both_in (by rw [JM.fillTo_len]; omega) (by have := JM.piece_size S j; omega)
    have e : JM.fillTo M f S (j + 1) = (JM.fillTo M f S j).write ((f + j : Nat) : Int) ((0 : Nat) : Int) (JM.piece S j) := rfl
    rw [e] at hu ⊢
    obtain ⟨hu1, e1⟩ := write_was hb hu
    by_cases hij : i = j
    · subst hij
      rw [e1, Int.toNat_natCast, page_set_self (by rw [DM.step_ps, JM.fillTo_len]; omega), fillTo_page f (f + i) i (fun m hm => by omega)]
      rfl
    · rw [write_page_ne (by omega)]
      exact fillTo_was hn f j (by omega) hu1 i (by omega)
/-- What is not touched while the other half is written. -/
structure Safe (M0 M : DM) (n x h : Nat) : Prop where
  p0 : M.page 0 = M0.page 0
  p1 : ∀ b, Torn (M.page 1) b → ∀ i, i < 16 → b[h * 16 + i]? = ((M0.page 1).old)[h * 16 + i]?
  ph : ∀ j, j < hpOf n → M.page (2 + h * hpOf n + j) = M0.page (2 + h * hpOf n + j)
theorem safe_jdc {M0 M : DM} {n x h : Nat} {l : List ByteArray} {b : Nat → List UInt8} (hl : JM.useR l ≤ capOf n) (h1 : h ≤ 1) (h4 : 4 ≤ n) (hC : Clean M0) (s : Safe M0 M n x h) (J : JDc (fun i => (M0.page i).old) n h l) (hb : ∀ i, i < n → Torn (M.page i) (b i)) : JDc b n h l := by
  have hhp : hpOf n * 2 + 2 ≤ n := by unfold hpOf; omega
  refine jdc_same hl J ?_ ?_ ?_
  · have t := hb 0 (by omega)
    rw [s.p0] at t
    rw [torn_none (hC 0) t]
  · exact fun i hi => s.p1 _ (hb 1 (by omega)) i hi
  · intro j hj
    have hlt : 2 + h * hpOf n + j < n := by
      rcases (by omega : h = 0 ∨ h = 1) with rfl | rfl <;> omega
    have t := hb (2 + h * hpOf n + j) hlt
    rw [s.ph j hj] at t
    exact torn_none (hC _) t
theorem region_ne {n x h j i : Nat} (hx : x ≤ 1) (hh : h = 1 - x) (hj : j < hpOf n) (hi : i < hpOf n) : 2 + h * hpOf n + j ≠ 2 + x * hpOf n + i := by
  rcases (by omega : x = 0 ∨ x = 1) with rfl | rfl
  · subst hh
    simp only [Nat.sub_zero, Nat.one_mul, Nat.zero_mul]; omega
  · subst hh
    simp only [Nat.sub_self, Nat.one_mul, Nat.zero_mul]; omega
theorem pcs_le {S : List UInt8} {n : Nat} (h : S.length ≤ capOf n) : JM.pcs S ≤ hpOf n := by
  unfold JM.pcs hpOf
  unfold capOf at h
  omega
theorem safe_fill (hC : Clean M) (hx : x ≤ 1) (hh : h = 1 - x) (j : Nat) (hj : j ≤ hpOf n) : Safe M (JM.fillTo M (2 + x * hpOf n) S j) n x h := by
  refine ⟨fillTo_page _ _ _ (fun i _ => by omega), ?_, fun k hk => fillTo_page _ _ _ (fun i hi => region_ne hx hh hk (by omega))⟩
  intro b t i _
  rw [fillTo_page _ _ _ (fun i _ => by omega)] at t
  rw [torn_none (hC 1) t]
theorem put_other {o H : List UInt8} (ho : o.length = 128) (hH : H.length = 16) (hx : x ≤ 1) (hh : h = 1 - x) (i : Nat) (hi : i < 16) : (DM.put o (x * 16) H)[h * 16 + i]? = o[h * 16 + i]? := by
  rw [put_at _ _ _ _ (by omega)]
  rcases (by omega : x = 0 ∨ x = 1) with rfl | rfl
  · subst hh
    rw [if_neg (by omega), if_neg (by omega)]
  · subst hh
    rw [if_pos (by omega)]
theorem put_own {o H : List UInt8} (ho : o.length = 128) (hH : H.length = 16) (hx : x ≤ 1) (i : Nat) (hi : i < 16) : (DM.put o (x * 16) H)[x * 16 + i]? = H[i]? := by
  rw [put_at _ _ _ _ (by omega), if_neg (by omega), if_pos (by omega), show x * 16 + i - x * 16 = i by omega]
theorem put_len {o H : List UInt8} (a : Nat) (h : a + H.length ≤ o.length) : (DM.put o a H).length = o.length := DM.put_length h
theorem safe_head (hM : M.ok) (hC : Clean M) (hn : M.ps.length = n) (h4 : 4 ≤ n) (hx : x ≤ 1) (hh : h = 1 - x) (hS : S.length ≤ capOf n) : Safe M (JM.headM M (2 + x * hpOf n) x S) n x h := by
  have hj := pcs_le hS
  have s := safe_fill (M := M) (S := S) hC hx hh _ hj
  have hw : (JM.fillTo M (2 + x * hpOf n) S (JM.pcs S)).page 1 = M.page 1 := fillTo_page _ _ _ (fun i _ => by omega)
  have hlen := (DM.page_ok hM (i := 1) (by omega)).1
  have hH := JM.headB_length S.length (JM.sumF 0 S)
  refine ⟨?_, ?_, ?_⟩
  · unfold JM.headM
    rw [show (1 : Int) = ((1 : Nat) : Int) from rfl, write_page_ne (by omega)]; exact s.p0
  · intro b t i hi
    rcases write_page_self (M := JM.fillTo M (2 + x * hpOf n) S (JM.pcs S)) (i := 1) (a := x * 16) (s := JM.headB S.length (JM.sumF 0 S)) (by rw [JM.fillTo_len]; omega) with e | e
    · have t' : Torn (M.page 1) b := by rw [← hw, ← e]; exact t
      rw [torn_none (hC 1) t']
    · rw [hw] at e
      have en : (JM.headM M (2 + x * hpOf n) x S).page 1 = ⟨(M.page 1).old, some (DM.put (M.page 1).now (x * 16) (JM.headB S.length (JM.sumF 0 S)))⟩ := e
      rw [en] at t
      obtain ⟨c, rfl⟩ := torn_some (p := ⟨(M.page 1).old, some (DM.put (M.page 1).now (x * 16) (JM.headB S.length (JM.sumF 0 S)))⟩) rfl t
      have hnow : (M.page 1).now = (M.page 1).old := by unfold Pg.now; rw [hC 1]; rfl
      rw [hnow, mix_at _ _ _ _ (by rw [put_len _ (by omega)]; exact hlen) hlen]
      split
      · exact put_other hlen hH hx hh i hi
      · rfl
  · intro k hk
    unfold JM.headM
    rw [show (1 : Int) = ((1 : Nat) : Int) from rfl, write_page_ne (by omega)]; exact s.ph k hk
theorem safe_flush {M0 : DM} (hC : Clean M0) (hn : M.ps.length = n) (h4 : 4 ≤ n) (h1 : h ≤ 1) (s : Safe M0 M n x h) : Safe M0 M.flush n x h := by
  have hhp : hpOf n * 2 + 2 ≤ n := by unfold hpOf; omega
  refine ⟨?_, ?_, ?_⟩
  · rcases flush_page M 0 (by omega) with e | e
    · rw [e]; exact s.p0
    · rw [e, s.p0]; exact settle_clean (hC 0) _
  · intro b t i hi
    rcases flush_page M 1 (by omega) with e | e
    · rw [e] at t; exact s.p1 b t i hi
    · rw [e] at t
      have := torn_none (settle_none 128) t
      exact s.p1 b ⟨128, this⟩ i hi
  · intro k hk
    have hlt : 2 + h * hpOf n + k < n := by
      rcases (by omega : h = 0 ∨ h = 1) with rfl | rfl <;> omega
    rcases flush_page M (2 + h * hpOf n + k) (by omega) with e | e
    · rw [e]; exact s.ph k hk
    · rw [e, s.ph k hk]; exact settle_clean (hC _) _
end
end Go.Proofs.Ythgmlopkcgkjlaa

/-
  A call of the journal is done or not done, whenever the power fails, in plain words. Conditions: none.
-/
namespace Go.Proofs.Ythgmlopkcgkjlaa
open Go.RowKit Go.Shelf

theorem settle_full {o l : List UInt8} (hl : l.length = 128) (ho : o.length = 128) : (Pg.settle ⟨o, some l⟩ 128) = ⟨l, none⟩ := by
  unfold Pg.settle
  simp only [Pg.mk.injEq, and_true]
  rw [List.take_of_length_le (by omega), List.drop_eq_nil_of_le (by omega), List.append_nil]
theorem now_clean {p : Pg} (h : p.new = none) : p.now = p.old := by unfold Pg.now; rw [h]; rfl
theorem put_zero_take (o s : List UInt8) : (DM.put o 0 s).take s.length = s := by
  unfold DM.put
  rw [List.take_zero, List.nil_append, List.take_append_of_le_length (Nat.le_refl _), List.take_length]
/-- The other half holds a stream and its head. -/
structure Ready (M : DM) (n x : Nat) (S : List UInt8) : Prop where
  clean : Clean M
  head : ∀ i, i < 16 → ((M.page 1).old)[x * 16 + i]? = (JM.headB S.length (JM.sumF 0 S))[i]?
  body : ∀ j, 128 * j < S.length → ((M.page (2 + x * hpOf n + j)).old).take (min 128 (S.length - 128 * j)) = JM.piece S j
section
variable {M : DM} {n x h : Nat} {S : List UInt8}
theorem fill_ready (hM : M.ok) (hC : Clean M) (hn : M.ps.length = n) (h4 : 4 ≤ n) (hx : x ≤ 1) (hS : S.length ≤ capOf n) (hu : (JM.fillM M (2 + x * hpOf n) x S).up = true) : Ready (JM.fillM M (2 + x * hpOf n) x S) n x S := by
  have hhp : hpOf n * 2 + 2 ≤ n := by unfold hpOf; omega
  have hpc := pcs_le hS
  have hxh : x * hpOf n ≤ hpOf n := by rcases (by omega : x = 0 ∨ x = 1) with rfl | rfl <;> omega
  have hH := JM.headB_length S.length (JM.sumF 0 S)
  obtain ⟨hu1, e1⟩ := flush_was (M := JM.headM M (2 + x * hpOf n) x S) hu
  have e1' : JM.fillM M (2 + x * hpOf n) x S = (JM.headM M (2 + x * hpOf n) x S).step.settled := e1
  have hb : ((JM.fillTo M (2 + x * hpOf n) S (JM.pcs S)).okP ((1 : Nat) : Int) && DM.fits ((x * 16 : Nat) : Int) (JM.headB S.length (JM.sumF 0 S)).length) = true := both_in (by rw [JM.fillTo_len]; omega) (by omega)
  obtain ⟨hu2, e2⟩ := write_was hb hu1
  have e2' : JM.headM M (2 + x * hpOf n) x S = (JM.fillTo M (2 + x * hpOf n) S (JM.pcs S)).step.set 1 ⟨((JM.fillTo M (2 + x * hpOf n) S (JM.pcs S)).page 1).old, some (DM.put ((JM.fillTo M (2 + x * hpOf n) S (JM.pcs S)).page 1).now (x * 16) (JM.headB S.length (JM.sumF 0 S)))⟩ := e2
  have hp1 : (JM.fillTo M (2 + x * hpOf n) S (JM.pcs S)).page 1 = M.page 1 := fillTo_page _ _ _ (fun i _ => by omega)
  have hl1 := (DM.page_ok hM (i := 1) (by omega)).1
  refine ⟨?_, ?_, ?_⟩
  · rw [e1']; exact settled_clean _
  · intro i hi
    have hpg : (JM.headM M (2 + x * hpOf n) x S).page 1 = ⟨(M.page 1).old, some (DM.put (M.page 1).old (x * 16) (JM.headB S.length (JM.sumF 0 S)))⟩ := by
      rw [e2', page_set_self (by rw [DM.step_ps, JM.fillTo_len]; omega), hp1, now_clean (hC 1)]
    rw [e1', step_settled_page _ _ (by rw [JM.headM_len]; omega), hpg, settle_full (by rw [put_len _ (by omega)]; exact hl1) hl1]
    exact put_own hl1 hH hx i hi
  · intro j hj
    have hjp : j < JM.pcs S := by unfold JM.pcs; omega
    have hlj := (DM.page_ok hM (i := 2 + x * hpOf n + j) (by omega)).1
    have hpl := JM.piece_length S j
    have hpg : (JM.headM M (2 + x * hpOf n) x S).page (2 + x * hpOf n + j) = ⟨(M.page (2 + x * hpOf n + j)).old, some (DM.put (M.page (2 + x * hpOf n + j)).old 0 (JM.piece S j))⟩ := by
      have hne : (JM.headM M (2 + x * hpOf n) x S).page (2 + x * hpOf n + j) = (JM.fillTo M (2 + x * hpOf n) S (JM.pcs S)).page (2 + x * hpOf n + j) := by
        rw [e2', page_set_ne (by omega), DM.page_step]
      rw [hne, fillTo_was hn _ _ (by omega) hu2 j hjp, now_clean (hC _)]
    rw [e1', step_settled_page _ _ (by rw [JM.headM_len]; omega), hpg, settle_full (by rw [put_len _ (by omega)]; exact hlj) hlj, ← hpl]
    exact put_zero_take _ _
theorem mark_of (x : Nat) : (JM.markL x)[0]? = some (if x = 0 then 0 else 255) := rfl
theorem put_mark {o : List UInt8} (ho : o.length = 128) (x : Nat) : (DM.put o 0 (JM.markL x))[0]? = some (if x = 0 then 0 else 255) := by
  have hl : (JM.markL x).length = 1 := rfl
  rw [put_at _ _ _ _ (by omega), if_neg (by omega), if_pos (by omega)]; rfl
theorem mark_torn {l l' : List ByteArray} {b : Nat → List UInt8} (hM : M.ok) (hC : Clean M) (hn : M.ps.length = n) (h4 : 4 ≤ n) (hx : x ≤ 1) (hh : h = 1 - x) (hl : JM.useR l ≤ capOf n) (hl' : JM.useR l' ≤ capOf n) (J : JDc (fun i => (M.page i).old) n h l)
    (hb : ∀ i, i < n → Torn ((JM.markM M (2 + x * hpOf n) x (JM.stream l')).page i) (b i)) : JDc b n h l ∨ JDc b n x l' := by
  have hS : (JM.stream l').length ≤ capOf n := by rw [JM.stream_length]; exact hl'
  have h1 : h ≤ 1 := by omega
  have hhp : hpOf n * 2 + 2 ≤ n := by unfold hpOf; omega
  have hxh : x * hpOf n ≤ hpOf n := by rcases (by omega : x = 0 ∨ x = 1) with rfl | rfl <;> omega
  have sf : Safe M (JM.fillM M (2 + x * hpOf n) x (JM.stream l')) n x h := safe_flush hC (by rw [JM.headM_len]; exact hn) h4 h1 (safe_head hM hC hn h4 hx hh hS)
  cases hu : (JM.fillM M (2 + x * hpOf n) x (JM.stream l')).up with
  | false =>
    have e : JM.markM M (2 + x * hpOf n) x (JM.stream l') = JM.fillM M (2 + x * hpOf n) x (JM.stream l') := (write_down hu).2
    rw [e] at hb
    exact .inl (safe_jdc hl h1 h4 hC sf J hb)
  | true =>
    have R := fill_ready hM hC hn h4 hx hS hu
    have hne : ∀ k, k ≠ 0 → (JM.markM M (2 + x * hpOf n) x (JM.stream l')).page k = (JM.fillM M (2 + x * hpOf n) x (JM.stream l')).page k := fun k hk => write_page_ne (i := 0) hk
    have hs0 : (JM.markM M (2 + x * hpOf n) x (JM.stream l')).page 0 = (JM.fillM M (2 + x * hpOf n) x (JM.stream l')).page 0 ∨ (JM.markM M (2 + x * hpOf n) x (JM.stream l')).page 0 = ⟨((JM.fillM M (2 + x * hpOf n) x (JM.stream l')).page 0).old, some (DM.put ((JM.fillM M (2 + x * hpOf n) x (JM.stream l')).page 0).now 0 (JM.markL x))⟩ :=
      write_page_self (i := 0) (a := 0) (by rw [JM.fillM_len]; omega)
    rcases hs0 with e | e
    · refine .inl (safe_jdc hl h1 h4 hC sf J (fun i hi => ?_))
      have t := hb i hi
      by_cases h0 : i = 0
      · subst h0; rw [e] at t; exact t
      · rw [hne i h0] at t; exact t
    · have t0 := hb 0 (by omega)
      rw [e, sf.p0, now_clean (hC 0)] at t0
      have hl0 := (DM.page_ok hM (i := 0) (by omega)).1
      obtain ⟨c, hc⟩ := torn_some (p := ⟨(M.page 0).old, some (DM.put (M.page 0).old 0 (JM.markL x))⟩) rfl t0
      have hp0 : (DM.put (M.page 0).old 0 (JM.markL x)).length = 128 := by rw [put_len _ (by show 0 + 1 ≤ _; omega)]; exact hl0
      have hoth : ∀ i, i < n → i ≠ 0 → Torn ((JM.fillM M (2 + x * hpOf n) x (JM.stream l')).page i) (b i) := fun i hi h0 => by
        have t := hb i hi
        rw [hne i h0] at t; exact t
      by_cases hc0 : c = 0
      · left
        subst hc0
        rw [List.take_zero, List.nil_append, List.drop_zero] at hc
        refine safe_jdc hl h1 h4 hC sf J (fun i hi => ?_)
        by_cases h0 : i = 0
        · subst h0
          rw [hc, sf.p0]
          exact ⟨0, by rw [settle_clean (hC 0)]⟩
        · exact hoth i hi h0
      · right
        refine ⟨?_, ?_, ?_⟩
        · rw [hc, mix_at _ _ _ _ hp0 hl0, if_pos (by omega)]
          exact put_mark hl0 x
        · intro i hi
          rw [torn_none (R.clean 1) (hoth 1 (by omega) (by omega))]
          exact R.head i hi
        · intro j hj
          have hj2 : j < hpOf n := by
            unfold capOf at hS
            unfold hpOf
            omega
          rw [torn_none (R.clean _) (hoth (2 + x * hpOf n + j) (by omega) (by omega))]
          exact R.body j hj
theorem keep_torn {l l' : List ByteArray} {b : Nat → List UInt8} (hM : M.ok) (hC : Clean M) (hn : M.ps.length = n) (h4 : 4 ≤ n) (hx : x ≤ 1) (hh : h = 1 - x) (hl : JM.useR l ≤ capOf n) (hl' : JM.useR l' ≤ capOf n) (J : JDc (fun i => (M.page i).old) n h l)
    (hb : ∀ i, i < n → Torn ((JM.keepM M (2 + x * hpOf n) x (JM.stream l')).page i) (b i)) : JDc b n h l ∨ JDc b n x l' := by
  refine mark_torn hM hC hn h4 hx hh hl hl' J (fun i hi => ?_)
  have t := hb i hi
  rcases flush_page (JM.markM M (2 + x * hpOf n) x (JM.stream l')) i (by rw [JM.markM_len]; omega) with e | e
  · have e' : (JM.keepM M (2 + x * hpOf n) x (JM.stream l')).page i = (JM.markM M (2 + x * hpOf n) x (JM.stream l')).page i := e
    rw [e'] at t; exact t
  · have e' : (JM.keepM M (2 + x * hpOf n) x (JM.stream l')).page i = ((JM.markM M (2 + x * hpOf n) x (JM.stream l')).page i).settle 128 := e
    rw [e'] at t
    exact ⟨128, torn_none (settle_none 128) t⟩
/-- A call that is done: the other half holds the new records, and nothing is pending. -/
theorem keep_done {l' : List ByteArray} (hM : M.ok) (hC : Clean M) (hn : M.ps.length = n) (h4 : 4 ≤ n) (hx : x ≤ 1) (hl' : JM.useR l' ≤ capOf n) (hu : (JM.keepM M (2 + x * hpOf n) x (JM.stream l')).up = true) :
    Clean (JM.keepM M (2 + x * hpOf n) x (JM.stream l')) ∧ JDc (fun i => ((JM.keepM M (2 + x * hpOf n) x (JM.stream l')).page i).old) n x l' := by
  have hS : (JM.stream l').length ≤ capOf n := by rw [JM.stream_length]; exact hl'
  have hhp : hpOf n * 2 + 2 ≤ n := by unfold hpOf; omega
  have hxh : x * hpOf n ≤ hpOf n := by rcases (by omega : x = 0 ∨ x = 1) with rfl | rfl <;> omega
  obtain ⟨hu1, e1⟩ := flush_was (M := JM.markM M (2 + x * hpOf n) x (JM.stream l')) hu
  have e1' : JM.keepM M (2 + x * hpOf n) x (JM.stream l') = (JM.markM M (2 + x * hpOf n) x (JM.stream l')).step.settled := e1
  have hbt : ((JM.fillM M (2 + x * hpOf n) x (JM.stream l')).okP ((0 : Nat) : Int) && DM.fits ((0 : Nat) : Int) (JM.markL x).length) = true := both_in (by rw [JM.fillM_len]; omega) (by show 0 + 1 ≤ 128; omega)
  obtain ⟨hu2, e2⟩ := write_was hbt hu1
  have R := fill_ready hM hC hn h4 hx hS hu2
  have hC1 : Clean (JM.keepM M (2 + x * hpOf n) x (JM.stream l')) := by rw [e1']; exact settled_clean _
  have hne : ∀ k, k ≠ 0 → (JM.markM M (2 + x * hpOf n) x (JM.stream l')).page k = (JM.fillM M (2 + x * hpOf n) x (JM.stream l')).page k := fun k hk => write_page_ne (i := 0) hk
  have hpk : ∀ k, k < n → k ≠ 0 → (JM.keepM M (2 + x * hpOf n) x (JM.stream l')).page k = (JM.fillM M (2 + x * hpOf n) x (JM.stream l')).page k := fun k hk h0 => by
    rw [e1', step_settled_page _ _ (by rw [JM.markM_len]; omega), hne k h0]; exact settle_clean (R.clean k) _
  have okF := JM.fillM_ok hM (2 + x * hpOf n) x (JM.stream l')
  have hl0 := (DM.page_ok okF (i := 0) (by rw [JM.fillM_len]; omega)).1
  refine ⟨hC1, ?_, ?_, ?_⟩
  · have e2' : (JM.markM M (2 + x * hpOf n) x (JM.stream l')).page 0 = ⟨((JM.fillM M (2 + x * hpOf n) x (JM.stream l')).page 0).old, some (DM.put ((JM.fillM M (2 + x * hpOf n) x (JM.stream l')).page 0).old 0 (JM.markL x))⟩ := by
      have e3 : JM.markM M (2 + x * hpOf n) x (JM.stream l') = (JM.fillM M (2 + x * hpOf n) x (JM.stream l')).step.set 0 ⟨((JM.fillM M (2 + x * hpOf n) x (JM.stream l')).page 0).old, some (DM.put ((JM.fillM M (2 + x * hpOf n) x (JM.stream l')).page 0).now 0 (JM.markL x))⟩ := e2
      rw [e3, page_set_self (by rw [DM.step_ps, JM.fillM_len]; omega), now_clean (R.clean 0)]
    show ((JM.keepM M (2 + x * hpOf n) x (JM.stream l')).page 0).old[0]? = _
    rw [e1', step_settled_page _ _ (by rw [JM.markM_len]; omega), e2', settle_full (by rw [put_len _ (by show 0 + 1 ≤ _; omega)]; exact hl0) hl0]
    exact put_mark hl0 x
  · intro i hi
    show ((JM.keepM M (2 + x * hpOf n) x (JM.stream l')).page 1).old[x * 16 + i]? = _
    rw [hpk 1 (by omega) (by omega)]
    exact R.head i hi
  · intro j hj
    have hj2 : j < hpOf n := by
      unfold capOf at hS
      unfold hpOf
      omega
    show (((JM.keepM M (2 + x * hpOf n) x (JM.stream l')).page (2 + x * hpOf n + j)).old).take _ = _
    rw [hpk _ (by omega) (by omega)]
    exact R.body j hj
end
end Go.Proofs.Ythgmlopkcgkjlaa
