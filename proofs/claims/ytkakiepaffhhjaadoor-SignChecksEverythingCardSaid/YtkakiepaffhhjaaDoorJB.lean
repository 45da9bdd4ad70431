/-
  Contracts of the functions that the statements of layer 3 call, part 2 of 10 (merged texts: Ha, Hsum, Math, MathLists). Conditions: as the head of each part says.
-/
import Derived.Test.YtkakiepaffhhjaaDoorJA

/-
  Contracts of the walks over chapter 2's Stream.Add. Conditions: a message of at most 10^9 bytes; the tables read as the document has them.
-/
namespace Go.Proofs.YtkakiepaffhhjaaDoor
open Go.RowKit

/-- The stream whose message is m. -/
def SVc (m : List UInt8) : List Value := strmC (SM.val m) (SM.rest m ++ SM.zeros (64 - m.length % 64)) m.length
theorem pad_length (m : List UInt8) : (SM.rest m ++ SM.zeros (64 - m.length % 64)).length = 64 := by rw [List.length_append, SM.rest_length, SM.zeros_length]; omega
theorem SVc_nil : SVc [] = strmC SM.start (SM.zeros 64) 0 := rfl
theorem SVc_length (m : List UInt8) : (SVc m).length = 73 := strm_length _ _ _ (pad_length m)
theorem byteCells_B8 (l : List UInt8) : Lib.byteCells l = l.map B8 := rfl

theorem splice_mid {α : Type} (A M T cs : List α) (k : Nat) (h : k + cs.length ≤ M.length) : splice (A ++ (M ++ T)) (A.length + k) cs = A ++ (splice M k cs ++ T) := by
  unfold splice
  rw [List.take_append, List.take_of_length_le (by omega : A.length ≤ A.length + k), show A.length + k - A.length = k by omega, List.take_append_of_le_length (by omega),
    List.drop_append, List.drop_eq_nil_of_le (by omega : A.length ≤ A.length + k + cs.length), List.nil_append, show A.length + k + cs.length - A.length = k + cs.length by omega, List.drop_append_of_le_length (by omega)]
  simp [List.append_assoc]
theorem strm_mid (v : SM.V) (r : List UInt8) (n k : Nat) (p : List UInt8) (h : k + p.length ≤ r.length) : splice (strmC v r n) (8 + k) (p.map B8) = strmC v (splice r k p) n := by
  have e : (splice r k p).map B8 = splice (r.map B8) k (p.map B8) := by unfold splice; simp [List.map_take, List.map_drop]
  have := splice_mid (v.list.map W32) (r.map B8) [.int .u64 (n : Int)] (p.map B8) k (by rw [List.length_map, List.length_map]; exact h)
  unfold strmC
  rw [e]
  exact this
theorem splice_tail (a z p : List UInt8) (n : Nat) (hz : z = SM.zeros n) (_h : p.length ≤ n) : splice (a ++ z) a.length p = a ++ p ++ SM.zeros (n - p.length) := by
  subst hz
  unfold splice SM.zeros
  rw [List.take_left' rfl, List.drop_append, List.drop_eq_nil_of_le (by omega), List.nil_append, List.drop_replicate, show a.length + p.length - a.length = p.length by omega, List.append_assoc]

/-- More bytes that do not fill the block. -/
theorem SVc_short (m p : List UInt8) (h : m.length % 64 + p.length < 64) : strmC (SM.val m) (splice (SM.rest m ++ SM.zeros (64 - m.length % 64)) (m.length % 64) p) (m.length + p.length) = SVc (m ++ p) := by
  unfold SVc
  have e := splice_tail (SM.rest m) (SM.zeros (64 - m.length % 64)) p (64 - m.length % 64) rfl (by omega)
  rw [SM.rest_length] at e
  rw [e, SM.val_short m p h, SM.rest_short m p h, List.length_append, show 64 - m.length % 64 - p.length = 64 - (m.length + p.length) % 64 by omega]
/-- More bytes that fill it. -/
theorem SVc_fill (m p : List UInt8) (h : m.length % 64 + p.length = 64) : splice (SM.rest m ++ SM.zeros (64 - m.length % 64)) (m.length % 64) p = SM.rest m ++ p := by
  have e := splice_tail (SM.rest m) (SM.zeros (64 - m.length % 64)) p (64 - m.length % 64) rfl (by omega)
  rw [SM.rest_length] at e
  rw [e, show 64 - m.length % 64 - p.length = 0 by omega]
  simp [SM.zeros]
theorem SVc_full (m p : List UInt8) (h : m.length % 64 + p.length = 64) : strmC (SM.compress (SM.val m) (SM.rest m ++ p)) (SM.zeros 64) (m.length + p.length) = SVc (m ++ p) := by
  unfold SVc
  rw [SM.val_full m p h, SM.rest_full m p h, List.length_append, show (m.length + p.length) % 64 = 0 by omega]
  rfl

theorem drop_extract (s : ByteArray) (k : Nat) : (s.extract k s.size).data.toList = s.data.toList.drop k := by
  simp [ByteArray.data_extract]
  rw [List.take_of_length_le]
  rw [List.length_drop, Array.length_toList]
  exact Nat.le_refl _
theorem wpList_copyP {P : Program} {ops : Array Oper} {rest : List Oper} {o : Oper} {a : Act} {w : World} {Q : Exit → Act → World → Prop} (hgd : o.guard = none) (d s : Operand) (dT sT : TypeId)
    (ho : o.op = .call { callee := .builtin .copy, args := #[d, s], argTypes := #[dT, sT] }) (elem : TypeId) (hu : P.underlying dT = some (.slice elem)) (hsz : (P.info? elem).map (·.size) = some 1)
    (g k dLen dCap : Nat) (hd : a.eval d = .slice (some ⟨g, k, none⟩) dLen dCap) (b : ByteArray) (hs : a.eval s = .string b) {t : TypeId} {l : List Value} (hb : Blk w g t l) (hl : k + dLen ≤ l.length)
    (p : List UInt8) (hp : Hid (b.data.toList.take dLen = p))
    (h : ∀ w', Upd g w w' → Blk w' g t (splice l k (p.map B8)) → wpList P ops Q rest (a.put o.dst (.int .i64 (p.length : Int))) w') : wpList P ops Q (o :: rest) a w := by
  refine wpList_copyStr hgd d s dT sT ho elem hu hsz g k dLen dCap hd b hs hb hl fun w' hu' hb' => ?_
  rw [hp.out] at hb'
  have e : Nat.min b.size dLen = p.length := by rw [← hp.out, List.length_take, Array.length_toList, Nat.min_comm]; rfl
  rw [e]
  exact h w' hu' hb'

theorem used_raw (m : List UInt8) (w : World) (hm : m.length ≤ 1000000000) (u : Nat) (hu : Hid (m.length % 64 = u)) :
    Calls Tryd.prog 75 #[.agg (SVc m).toArray] w fun e w' => e = .returned (.int .i64 (u : Int)) ∧ Below w.heap.size w w' := by
  rw [← hu.out]
  exact used_any _ _ _ w (pad_length m) hm

theorem Tryd.size32 : (Tryd.prog.info? 65).map (·.size) = some 1 := by kernel_rfl
theorem used_n (v : SM.V) (q : List UInt8) (N : Nat) (w : World) (hq : Hid (q.length = 64)) (hN : N ≤ 1000000000) (u : Nat) (hu : Hid (N % 64 = u)) :
    Calls Tryd.prog 75 #[.agg (strmC v q N).toArray] w fun e w' => e = .returned (.int .i64 (u : Int)) ∧ Below w.heap.size w w' := by
  rw [← hu.out]
  exact used_any _ _ _ w hq.out hN

/-- Add's loop: m of the message has been taken in, s is left. -/
def AddTo (m0 text : List UInt8) (B gs gr : Nat) (w : World) (t : Value) (wr : World) : Prop :=
  ∃ (m : List UInt8) (s : ByteArray), t = .string s ∧ Hid (m ++ s.data.toList = m0 ++ text) ∧ Blk wr gs 88 (SVc m) ∧ Blk wr gr 88 zeroS ∧ Below B w wr
def sizeOfStr : Value → Nat
  | .string s => s.size
  | _ => 0

set_option maxRecDepth 100000 in
set_option maxHeartbeats 1600000 in
theorem add_any (m : List UInt8) (s : ByteArray) (w : World) (hl : m.length + s.size ≤ 1000000000) (HY : Lay w) :
    Calls Tryd.prog 65 #[.agg (SVc m).toArray, .string s] w fun e w' => e = .returned (.agg (SVc (m ++ s.data.toList)).toArray) ∧ Below w.heap.size w w' := by
  have HL := Lib.hid hl
  clear hl
  go_enter Tryd.func65, Tryd.ntmps65
  go_wp2_with (with_reducible refine wpList_box (o := ⟨some 2, .box 88 (.tmp 0), _, _, _, _⟩) ?g1 88 (.tmp 0) ?o1 (.agg (SVc m).toArray) (SVc m) ?x1 ?c1 ?_)
  try (case g1 => rfl)
  try (case o1 => rfl)
  try (case x1 => rfl)
  try (case c1 => rfl)
  intro gs w1 hgs hs1 hb1 hB1
  go_wp2_with (with_reducible refine wpList_alloc (o := ⟨some 4, .alloc 88, _, _, _, _⟩) ?g2 88 ?o2 (strmV ⟨0, 0, 0, 0, 0, 0, 0, 0⟩ (SM.zeros 64) 0) zeroS ?z2 ?c2 ?_)
  try (case g2 => rfl)
  try (case o2 => rfl)
  try (case z2 => exact Tryd.zero34)
  try (case c2 => rfl)
  intro gr w2 hgr hs2 hb2 hB2
  have hlt0 : w.heap.size ≤ gs := Nat.le_of_eq hgs.out.symm
  have hlt1 : gs < gr := by have := hs1.out; have := hgr.out; omega
  have hsz2 : gr < w2.heap.size := by have := hs2.out; omega
  have hb : Below w.heap.size w w2 := (hb1.mono hlt0).trans (hb2.mono (by omega))
  have hB1' := hB1.next hb2 hlt1
  clear hgs hgr hs1 hs2 hb1 hb2 hB1
  go_wp2
  go_loopw [1] (AddTo m s.data.toList w.heap.size gs gr w) (fun t _ => sizeOfStr t)
  case atStart => exact ⟨m, s, rfl, rfl, hB1', hB2, hb⟩
  case round =>
    clear hB1' hB2 hb hsz2
    obtain ⟨m', t, rfl, hmt, hBs, hBr, hbel⟩ := hrel
    have HYr := HY.next hbel
    obtain ⟨d34, HD34, hd34⟩ := Tryd.under34
    have hml : Hid (m'.length + t.size = m.length + s.size) := by
      have := congrArg List.length hmt.out
      rw [List.length_append, List.length_append, Array.length_toList, Array.length_toList] at this
      exact Lib.hid this
    have hmb : m'.length ≤ 1000000000 := by have := hml.out; have := HL.out; omega
    have htb : t.size ≤ 1000000000 := by have := hml.out; have := HL.out; omega
    by_cases ht : 0 < t.size
    · obtain ⟨p, hp⟩ : ∃ p, Hid (t.data.toList.take (64 - m'.length % 64) = p) := ⟨_, rfl⟩
      have hpl : Hid (p.length = min (64 - m'.length % 64) t.size) := by
        have : p.length = min (64 - m'.length % 64) t.size := by rw [← hp.out, List.length_take, Array.length_toList]; rfl
        exact Lib.hid this
      have hp1 : p.length ≤ t.size := by have := hpl.out; omega
      have hp2 : m'.length % 64 + p.length ≤ 64 := by have := hpl.out; omega
      have hp3 : 0 < p.length := by have := hpl.out; omega
      obtain ⟨u, hu⟩ : ∃ u, Hid (m'.length % 64 = u) := ⟨_, rfl⟩
      have hu64 : u < 64 := by have := hu.out; omega
      rw [hu.out] at hp2
      have hp' : Hid (t.data.toList.take (64 - u) = p) := by rw [← hu.out]; exact hp
      go_wp2_with (with_reducible refine wpList_get (o := ⟨some 10, .load 88 (.tmp 2), _, _, _, _⟩) ?g3 88 (.tmp 2) ?o3 gs 0 ?x3 hBs (SVc m') ?c3 d34 ?u3 ?d3 ?i3 ?_)
      try (case x3 => rfl)
      try (case g3 => rfl)
      try (case o3 => rfl)
      try (case c3 => (exact cs_all _))
      try (case u3 => exact HD34.out)
      try (case d3 => first | rfl | assumption)
      try (case i3 => (rw [SVc_length]; exact Tryd.size34))
      go_wp2_with fail
      (with_reducible refine (used_raw m' _ hmb u hu).mono ?_)
      rintro e w4 ⟨rfl, hb4⟩
      have hBs4 := hBs.next hb4 hBs.lt
      have hBr4 := hBr.next hb4 hBr.lt
      have hbel4 := hbel.trans (hb4.mono hbel.size)
      clear hBs hBr hbel hb4 HYr
      go_wp2_with (first | (with_reducible refine wpList_cutL (o := ⟨some 12, .slice 84 (.tmp 9) (some (.tmp 11)) none none, _, _, _, _⟩) ?g4 84 (.tmp 9) (.tmp 11) ?o4 gs 8 ?x4 u ?y4 64 5 ?u4 ?i4 ?k4 ?_) | (with_reducible refine wpList_copyP (o := ⟨some 14, .call ⟨.builtin .copy, #[.tmp 12, .tmp 13], #[43, 9]⟩, _, _, _, _⟩) ?g5 (.tmp 12) (.tmp 13) 43 9 ?o5 5 ?u5 ?i5 gs (8 + u) (64 - u) (64 - u) ?x5 t ?y5 hBs4 ?l5 p hp' ?_))
      try (case x4 => rfl)
      try (case g4 => rfl)
      try (case o4 => rfl)
      try (case y4 => rfl)
      try (case u4 => exact Tryd.underlying84)
      try (case i4 => exact Tryd.size5)
      try (case k4 => exact hu64)
      case g5 => rfl
      case o5 => rfl
      try (case x5 => rfl)
      try (case y5 => rfl)
      case u5 => exact Tryd.underlying43
      case i5 => exact Tryd.size5
      case l5 => rw [SVc_length]; omega
      intro w5 hu5 hB5
      have hBr5 := hBr4.upd hu5 (by omega)
      have hbel5 := hbel4.trans (hu5.below (B := w.heap.size) (by omega))
      have hql : Hid ((splice (SM.rest m' ++ SM.zeros (64 - m'.length % 64)) u p).length = 64) := by
        have : (splice (SM.rest m' ++ SM.zeros (64 - m'.length % 64)) u p).length = 64 := by rw [splice_len, pad_length]; omega
        exact Lib.hid this
      unfold SVc at hB5
      rw [strm_mid _ _ _ _ _ (by rw [pad_length]; exact hp2)] at hB5
      obtain ⟨q, hq⟩ : ∃ q, Hid (splice (SM.rest m' ++ SM.zeros (64 - m'.length % 64)) u p = q) := ⟨_, rfl⟩
      rw [hq.out] at hB5 hql
      have hc72 := hB5.cell (strm_len _ q _ hql.out)
      clear hBs4 hBr4 hbel4 hu5 hp'
      obtain ⟨N, hN⟩ : ∃ N, Hid (m'.length + p.length = N) := ⟨_, rfl⟩
      have hNb : N ≤ 1000000000 := by have := hN.out; have := hml.out; have := HL.out; omega
      go_wp2_with (with_reducible refine wpList_put (o := ⟨none, .store 65 (.tmp 23) (.tmp 22), _, _, _, _⟩) ?g6 65 (.tmp 23) (.tmp 22) ?o6 gs 72 ?x6 (.int .u64 (N : Int)) ?y6 hB5 [.int .u64 (N : Int)] ?v6 ?i6 ?l6 ?q6 ?_)
      try (case y6 => (rw [← hN.out]; rfl))
      try (case x6 => rfl)
      try (case g6 => rfl)
      try (case o6 => rfl)
      try (case v6 => rfl)
      try (case i6 => exact Tryd.size32)
      try (case l6 => (rw [strm_length _ _ _ hql.out]; exact of_decide_eq_true rfl))
      try (case q6 => exact one_cell1 rfl)
      intro w6 hu6 hB6
      rw [strm_setN _ _ _ _ hql.out] at hB6
      have hBr6 := hBr5.upd hu6 (by omega)
      have hbel6 := hbel5.trans (hu6.below (B := w.heap.size) (by omega))
      clear hB5 hBr5 hbel5 hu6 hc72
      obtain ⟨u2, hu2⟩ : ∃ u2, Hid (N % 64 = u2) := ⟨_, rfl⟩
      have hrest : Hid ((t.extract p.length t.size).data.toList = t.data.toList.drop p.length) := drop_extract t p.length
      have hsz : Hid ((t.extract p.length t.size).size = t.size - p.length) := by
        have := congrArg List.length hrest.out
        rw [Array.length_toList, List.length_drop, Array.length_toList] at this
        exact this
      have hmt2 : Hid ((m' ++ p) ++ (t.extract p.length t.size).data.toList = m ++ s.data.toList) := by
        have e : p ++ t.data.toList.drop p.length = t.data.toList := by
          have h1 := hp.out
          have h2 : p.length = min (64 - m'.length % 64) t.size := hpl.out
          have h3 : t.data.toList.take p.length = p := by
            rw [h2, ← h1]
            by_cases hc : 64 - m'.length % 64 ≤ t.size
            · rw [Nat.min_eq_left hc]
            · rw [Nat.min_eq_right (by omega), List.take_of_length_le (by rw [Array.length_toList]; exact Nat.le_refl _), List.take_of_length_le (by rw [Array.length_toList]; show t.size ≤ _; omega)]
          conv => lhs; lhs; rw [← h3]
          exact List.take_append_drop _ _
        have : (m' ++ p) ++ (t.extract p.length t.size).data.toList = m ++ s.data.toList := by rw [hrest.out, List.append_assoc, e, hmt.out]
        exact this
      generalize t.extract p.length t.size = t2 at hrest hsz hmt2 ⊢
      by_cases hfull : u + p.length = 64
      · have hu20 : u2 = 0 := by have := hu2.out; have := hN.out; have := hu.out; omega
        have hq2 : Hid (q = SM.rest m' ++ p) := by
          have := SVc_fill m' p (by rw [hu.out]; exact hfull)
          rw [hu.out] at this
          rw [hu.out, this] at hq
          exact hq.out.symm
        have hS : Hid (strmC (SM.compress (SM.val m') q) (SM.zeros 64) N = SVc (m' ++ p)) := by
          have := SVc_full m' p (by rw [hu.out]; exact hfull)
          rw [← hN.out, hq2.out]; exact this
        rw [hu20] at hu2
        clear hu20
        go_wp2_with (with_reducible refine wpList_get (o := ⟨some 24, .load 88 (.tmp 2), _, _, _, _⟩) ?g7 88 (.tmp 2) ?o7 gs 0 ?x7 hB6 (strmC (SM.val m') q N) ?c7 d34 ?u7 ?d7 ?i7 ?_)
        try (case x7 => rfl)
        try (case g7 => rfl)
        try (case o7 => rfl)
        try (case c7 => (exact cs_all _))
        try (case u7 => exact HD34.out)
        try (case d7 => first | rfl | assumption)
        try (case i7 => (rw [strm_length _ _ _ hql.out]; exact Tryd.size34))
        go_wp2_with fail
        (with_reducible refine (used_n (SM.val m') q N _ hql hNb 0 hu2).mono ?_)
        rintro e w7 ⟨rfl, hb7⟩
        have hBs7 := hB6.next hb7 hB6.lt
        have hBr7 := hBr6.next hb7 hBr6.lt
        have hbel7 := hbel6.trans (hb7.mono hbel6.size)
        clear hB6 hBr6 hbel6 hb7
        have HY7 := HY.next hbel7
        go_wp2_with (with_reducible refine wpList_get (o := ⟨some 27, .load 88 (.tmp 2), _, _, _, _⟩) ?g8 88 (.tmp 2) ?o8 gs 0 ?x8 hBs7 (strmC (SM.val m') q N) ?c8 d34 ?u8 ?d8 ?i8 ?_)
        try (case x8 => rfl)
        try (case g8 => rfl)
        try (case o8 => rfl)
        try (case c8 => (exact cs_all _))
        try (case u8 => exact HD34.out)
        try (case d8 => first | rfl | assumption)
        try (case i8 => (rw [strm_length _ _ _ hql.out]; exact Tryd.size34))
        go_wp2_with fail
        (with_reducible refine (compressed_any (SM.val m') q N _ hql.out HY7).mono ?_)
        rintro e w8 ⟨rfl, hb8⟩
        have hBs8 := hBs7.next hb8 hBs7.lt
        have hBr8 := hBr7.next hb8 hBr7.lt
        have hbel8 := hbel7.trans (hb8.mono hbel7.size)
        clear hBs7 hBr7 hbel7 hb8 HY7
        rw [hS.out]
        go_wp2_with (with_reducible refine wpList_put (o := ⟨none, .store 88 (.tmp 2) (.tmp 28), _, _, _, _⟩) ?g9 88 (.tmp 2) (.tmp 28) ?o9 gs 0 ?x9 (.agg (SVc (m' ++ p)).toArray) ?y9 hBs8 (SVc (m' ++ p)) ?v9 ?i9 ?l9 ?q9 ?_)
        try (case y9 => rfl)
        try (case x9 => rfl)
        try (case g9 => rfl)
        try (case o9 => rfl)
        try (case v9 => rfl)
        try (case i9 => exact (by rw [SVc_length]; exact Tryd.size34))
        try (case l9 => (rw [SVc_length, strm_length _ _ _ hql.out]; exact Nat.le_refl _))
        try (case q9 => exact strm_one _ _ _)
        intro w9 hu9 hB9
        rw [splice_all _ _ (by rw [SVc_length, strm_length _ _ _ hql.out])] at hB9
        have hBr9 := hBr8.upd hu9 (by omega)
        have hbel9 := hbel8.trans (hu9.below (B := w.heap.size) (by omega))
        clear hBs8 hBr8 hbel8 hu9
        go_wp2
        go_roundw
        case rel => exact ⟨m' ++ p, t2, rfl, hmt2, hB9, hBr9, hbel9⟩
        case measure => show t2.size < t.size; rw [hsz.out]; omega
      · have hne : ((u2 : Int) == 0) = false := by
          have : u2 ≠ 0 := by have := hu2.out; have := hN.out; have := hu.out; omega
          exact beq_eq_false_iff_ne.2 (by omega)
        have hS : Hid (strmC (SM.val m') q N = SVc (m' ++ p)) := by
          have := SVc_short m' p (by rw [hu.out]; omega)
          rw [hu.out] at this
          rw [hu.out] at hq
          rw [← hN.out, ← hq.out]; exact this
        go_wp2_with (with_reducible refine wpList_get (o := ⟨some 24, .load 88 (.tmp 2), _, _, _, _⟩) ?g10 88 (.tmp 2) ?o10 gs 0 ?x10 hB6 (strmC (SM.val m') q N) ?c10 d34 ?u10 ?d10 ?i10 ?_)
        try (case x10 => rfl)
        try (case g10 => rfl)
        try (case o10 => rfl)
        try (case c10 => (exact cs_all _))
        try (case u10 => exact HD34.out)
        try (case d10 => first | rfl | assumption)
        try (case i10 => (rw [strm_length _ _ _ hql.out]; exact Tryd.size34))
        go_wp2_with fail
        (with_reducible refine (used_n (SM.val m') q N _ hql hNb u2 hu2).mono ?_)
        rintro e w7 ⟨rfl, hb7⟩
        have hBs7 := hB6.next hb7 hB6.lt
        have hBr7 := hBr6.next hb7 hBr6.lt
        have hbel7 := hbel6.trans (hb7.mono hbel6.size)
        rw [hS.out] at hBs7
        clear hB6 hBr6 hbel6 hb7
        go_wp2
        go_roundw
        case rel => exact ⟨m' ++ p, t2, rfl, hmt2, hBs7, hBr7, hbel7⟩
        case measure => show t2.size < t.size; rw [hsz.out]; omega
    · have ht0 : t.size = 0 := by omega
      have HM : Hid (m' = m ++ s.data.toList) := by
        have h0 : t.data.toList = [] := List.eq_nil_of_length_eq_zero (by rw [Array.length_toList]; exact ht0)
        have := hmt.out
        rw [h0, List.append_nil] at this
        exact this
      clear ht0
      go_wp2_with (first | (with_reducible refine wpList_get (o := ⟨some 29, .load 88 (.tmp 2), _, _, _, _⟩) ?g11 88 (.tmp 2) ?o11 gs 0 ?x11 hBs (SVc m') ?c11 d34 ?u11 ?d11 ?i11 ?_) | (with_reducible refine wpList_put (o := ⟨none, .store 88 (.tmp 4) (.tmp 29), _, _, _, _⟩) ?g12 88 (.tmp 4) (.tmp 29) ?o12 gr 0 ?x12 (.agg (SVc m').toArray) ?y12 hBr (SVc m') ?v12 ?i12 ?l12 ?q12 ?_))
      try (case x11 => rfl)
      try (case g11 => rfl)
      try (case o11 => rfl)
      try (case c11 => (exact cs_all _))
      try (case u11 => exact HD34.out)
      try (case d11 => first | rfl | assumption)
      try (case i11 => (rw [SVc_length]; exact Tryd.size34))
      try (case y12 => rfl)
      try (case x12 => rfl)
      try (case g12 => rfl)
      try (case o12 => rfl)
      try (case v12 => rfl)
      try (case i12 => exact (by rw [SVc_length]; exact Tryd.size34))
      try (case l12 => (rw [SVc_length]; exact Nat.le_refl _))
      try (case q12 => exact strm_one _ _ _)
      intro w7 hu7 hB7
      rw [splice_all _ _ (by rw [SVc_length]; rfl)] at hB7
      have hbel7 := hbel.trans (hu7.below (B := w.heap.size) (by omega))
      clear hBs hBr hbel hu7
      go_wp2
      refine bodyPost_ret (results_cell_row rfl _ _ gr _ _ _ _ rfl hB7 Tryd.underlying88 rfl (by rw [List.size_toArray, SVc_length]; exact Tryd.size34)) rfl ⟨by rw [HM.out], hbel7⟩
end Go.Proofs.YtkakiepaffhhjaaDoor

/-
  Contracts of the walks over chapter 2's Stream.Sum. Conditions: a message of at most 10^9 bytes; the tables read as the document has them.
-/
namespace Go.Proofs.YtkakiepaffhhjaaDoor
open Go.RowKit

theorem putWord_eq (g o n cap : Nat) (x : UInt32) (xi : Int) (hx : Hid (xi = (x.toNat : Int))) (w : World) (t : TypeId) (l : List Value) (hn : 4 ≤ n) (hb : Blk w g t l) (hl : o + 4 ≤ l.length) :
    Calls Tryd.prog 77 #[.slice (some ⟨g, o, none⟩) n cap, .int .u32 xi] w fun e w' => e = .returned (.tuple #[]) ∧ Upd g w w' ∧ Blk w' g t (splice l o ((SM.be4 x).map B8)) := by
  rw [hx.out]
  exact putWord_any g o n cap x w t l hn hb hl
theorem tail_bytes (q a b : List UInt8) (hq : q.length = 64) (ha : a.length = 4) (hb : b.length = 4) : splice (splice q 56 a) 60 b = q.take 56 ++ (a ++ b) := by
  rw [splice_splice q 56 a b (by omega) 60 (by omega)]
  unfold splice
  rw [List.drop_eq_nil_of_le (by rw [List.length_append]; omega), List.append_nil]
theorem hi_eq (m : List UInt8) (h : m.length ≤ 1000000000) : (m.length : Int) * 8 / 4294967296 = ((SM.hi m).toNat : Int) := by
  unfold SM.hi; rw [UInt32.toNat_ofNat']; omega
theorem lo_eq (m : List UInt8) : (m.length : Int) * 8 % 4294967296 = ((SM.lo m).toNat : Int) := by
  unfold SM.lo; rw [UInt32.toNat_ofNat']; omega

/-- The digest's bytes so far. -/
def outRow (v : SM.V) (k : Nat) : List Value := ((SM.out v).take (4 * k) ++ SM.zeros (32 - 4 * k)).map B8
theorem outRow_length (v : SM.V) (k : Nat) (h : k ≤ 8) : (outRow v k).length = 32 := by
  unfold outRow
  rw [List.length_map, List.length_append, List.length_take, SM.out_length, SM.zeros_length]; omega
theorem outRow_snoc (v : SM.V) (k : Nat) (h : k < 8) : splice (outRow v k) (4 * k) ((SM.be4 (v.list.getD k 0)).map B8) = outRow v (k + 1) := by
  match k, h with
  | 0, _ | 1, _ | 2, _ | 3, _ | 4, _ | 5, _ | 6, _ | 7, _ => rfl
theorem outRow_all (v : SM.V) : outRow v 8 = (SM.out v).map B8 := by
  unfold outRow
  rw [List.take_of_length_le (by rw [SM.out_length]; exact Nat.le_refl _)]
  simp [SM.zeros]
def zero32 : List Value := (SM.zeros 32).map B8
theorem Tryd.zero24 : (Tryd.prog.info? 76).map (·.zero) = some (some (aggB (SM.zeros 32))) := by kernel_rfl
theorem Tryd.size24 : (Tryd.prog.info? 76).map (·.size) = some 32 := by kernel_rfl
def OutRel (v : SM.V) (B gd gr : Nat) (w : World) (i : Value) (wr : World) : Prop :=
  ∃ k : Nat, k ≤ 8 ∧ i = .int .i64 k ∧ Blk wr gd 76 (outRow v k) ∧ Blk wr gr 76 zero32 ∧ Below B w wr

theorem q1_eq (m : List UInt8) : splice (SM.rest m ++ SM.zeros (64 - m.length % 64)) (m.length % 64) [128] = SM.rest m ++ 128 :: SM.zeros (63 - m.length % 64) := by
  have e := splice_tail (SM.rest m) (SM.zeros (64 - m.length % 64)) [128] (64 - m.length % 64) rfl (by simp; omega)
  rw [SM.rest_length] at e
  rw [e, List.append_assoc, show 64 - m.length % 64 - [(128 : UInt8)].length = 63 - m.length % 64 by simp; omega]
  rfl
theorem q1_length (m : List UInt8) : (SM.rest m ++ 128 :: SM.zeros (63 - m.length % 64)).length = 64 := by
  rw [List.length_append, SM.rest_length, List.length_cons, SM.zeros_length]; omega
theorem fin_one (m : List UInt8) (h : m.length % 64 < 56) : SM.out (SM.compress (SM.val m) ((SM.rest m ++ 128 :: SM.zeros (63 - m.length % 64)).take 56 ++ (SM.be4 (SM.hi m) ++ SM.be4 (SM.lo m)))) = SM.sum m := by
  rw [SM.sum_one m h]
  have e : (SM.rest m ++ 128 :: SM.zeros (63 - m.length % 64)).take 56 = SM.rest m ++ 128 :: SM.zeros (55 - m.length % 64) := by
    have hz : SM.zeros (63 - m.length % 64) = SM.zeros (55 - m.length % 64) ++ SM.zeros 8 := by
      unfold SM.zeros; rw [List.replicate_append_replicate]; congr 1; omega
    rw [hz, ← List.cons_append, ← List.append_assoc]
    exact List.take_left' (by rw [List.length_append, SM.rest_length, List.length_cons, SM.zeros_length]; omega)
  rw [e]
  rfl
theorem fin_two (m : List UInt8) (h : 56 ≤ m.length % 64) : SM.out (SM.compress (SM.compress (SM.val m) (SM.rest m ++ 128 :: SM.zeros (63 - m.length % 64))) ((SM.zeros 64).take 56 ++ (SM.be4 (SM.hi m) ++ SM.be4 (SM.lo m)))) = SM.sum m := by
  rw [SM.sum_two m h]
  rfl

theorem q1_set (m : List UInt8) (u : Nat) (hu : m.length % 64 = u) : splice (SVc m) (8 + u) [B8 128] = strmC (SM.val m) (SM.rest m ++ 128 :: SM.zeros (63 - m.length % 64)) m.length := by
  subst hu
  have := strm_mid (SM.val m) (SM.rest m ++ SM.zeros (64 - m.length % 64)) m.length (m.length % 64) [128] (by rw [pad_length]; simp; omega)
  rw [q1_eq] at this
  exact this
theorem strm_hi (v : SM.V) (q : List UInt8) (n : Nat) (p : List UInt8) (hq : q.length = 64) (hp : p.length = 4) : splice (strmC v q n) 64 (p.map B8) = strmC v (splice q 56 p) n := strm_mid v q n 56 p (by omega)
theorem strm_lo (v : SM.V) (q : List UInt8) (n : Nat) (p : List UInt8) (hq : q.length = 64) (hp : p.length = 4) : splice (strmC v q n) 68 (p.map B8) = strmC v (splice q 60 p) n := strm_mid v q n 60 p (by omega)

set_option maxRecDepth 100000 in
set_option maxHeartbeats 1600000 in
theorem ssum_any (m : List UInt8) (w : World) (hl : m.length ≤ 1000000000) (HY : Lay w) :
    Calls Tryd.prog 66 #[.agg (SVc m).toArray] w fun e w' => e = .returned (.agg ((SM.sum m).map B8).toArray) ∧ Below w.heap.size w w' := by
  go_enter Tryd.func66, Tryd.ntmps66
  go_wp2_with (with_reducible refine wpList_box (o := ⟨some 1, .box 88 (.tmp 0), _, _, _, _⟩) ?g1 88 (.tmp 0) ?o1 (.agg (SVc m).toArray) (SVc m) ?x1 ?c1 ?_)
  try (case g1 => rfl)
  try (case o1 => rfl)
  try (case x1 => rfl)
  try (case c1 => rfl)
  intro gs w1 hgs hs1 hb1 hB1
  go_wp2_with (with_reducible refine wpList_alloc (o := ⟨some 2, .alloc 76, _, _, _, _⟩) ?g2 76 ?o2 (aggB (SM.zeros 32)) zero32 ?z2 ?c2 ?_)
  try (case g2 => rfl)
  try (case o2 => rfl)
  try (case z2 => exact Tryd.zero24)
  try (case c2 => rfl)
  intro gr w2 hgr hs2 hb2 hB2
  have hlt0 : w.heap.size ≤ gs := Nat.le_of_eq hgs.out.symm
  have hlt1 : gs < gr := by have := hs1.out; have := hgr.out; omega
  have hsz2 : gr < w2.heap.size := by have := hs2.out; omega
  have hb : Below w.heap.size w w2 := (hb1.mono hlt0).trans (hb2.mono (by omega))
  have hBs := hB1.next hb2 hlt1
  clear hgs hgr hs1 hs2 hb1 hb2 hB1
  obtain ⟨d34, HD34, hd34⟩ := Tryd.under34
  obtain ⟨u, hu⟩ : ∃ u, Hid (m.length % 64 = u) := ⟨_, rfl⟩
  have hu64 : u < 64 := by have := hu.out; omega
  go_wp2_with (with_reducible refine wpList_get (o := ⟨some 8, .load 88 (.tmp 1), _, _, _, _⟩) ?g3 88 (.tmp 1) ?o3 gs 0 ?x3 hBs (SVc m) ?c3 d34 ?u3 ?d3 ?i3 ?_)
  try (case x3 => rfl)
  try (case g3 => rfl)
  try (case o3 => rfl)
  try (case c3 => (exact cs_all _))
  try (case u3 => exact HD34.out)
  try (case d3 => first | rfl | assumption)
  try (case i3 => (rw [SVc_length]; exact Tryd.size34))
  go_wp2_with fail
  (with_reducible refine (used_raw m _ hl u hu).mono ?_)
  rintro e w3 ⟨rfl, hb3⟩
  have hBs3 := hBs.next hb3 hBs.lt
  have hBr3 := hB2.next hb3 hB2.lt
  have hbel3 := hb.trans (hb3.mono hb.size)
  clear hBs hB2 hb hb3
  go_wp2_with (with_reducible refine wpList_put (o := ⟨none, .store 5 (.tmp 12) (.const (.int .u8 128)), _, _, _, _⟩) ?g4 5 (.tmp 12) (.const (.int .u8 128)) ?o4 gs (8 + u) ?x4 (B8 128) ?y4 hBs3 [B8 128] ?v4 ?i4 ?l4 ?q4 ?_)
  try (case y4 => rfl)
  try (case x4 => rfl)
  try (case g4 => rfl)
  try (case o4 => rfl)
  try (case v4 => rfl)
  try (case i4 => exact Tryd.size5)
  try (case l4 => (rw [SVc_length]; simp; omega))
  try (case q4 => exact one_cell1 rfl)
  intro w4 hu4 hB4
  have hBr4 := hBr3.upd hu4 (by omega)
  have hbel4 := hbel3.trans (hu4.below (B := w.heap.size) (by omega))
  clear hBs3 hBr3 hbel3 hu4
  have hm1 := Lib.hid (q1_set m u hu.out)
  rw [hm1.out] at hB4
  clear hm1
  obtain ⟨q1, hq1⟩ : ∃ q1, Hid (SM.rest m ++ 128 :: SM.zeros (63 - m.length % 64) = q1) := ⟨_, rfl⟩
  rw [hq1.out] at hB4
  have hq1l : Hid (q1.length = 64) := by have := q1_length m; rw [hq1.out] at this; exact this
  by_cases h56 : 56 ≤ u
  · have HY4 := HY.next hbel4
    go_wp2_with (with_reducible refine wpList_get (o := ⟨some 15, .load 88 (.tmp 1), _, _, _, _⟩) ?g5 88 (.tmp 1) ?o5 gs 0 ?x5 hB4 (strmC (SM.val m) q1 m.length) ?c5 d34 ?u5 ?d5 ?i5 ?_)
    try (case x5 => rfl)
    try (case g5 => rfl)
    try (case o5 => rfl)
    try (case c5 => (exact cs_all _))
    try (case u5 => exact HD34.out)
    try (case d5 => first | rfl | assumption)
    try (case i5 => (rw [strm_length _ _ _ hq1l.out]; exact Tryd.size34))
    go_wp2_with fail
    (with_reducible refine (compressed_any (SM.val m) q1 m.length _ hq1l.out HY4).mono ?_)
    rintro e w5 ⟨rfl, hb5⟩
    have hBs5 := hB4.next hb5 hB4.lt
    have hBr5 := hBr4.next hb5 hBr4.lt
    have hbel5 := hbel4.trans (hb5.mono hbel4.size)
    clear hB4 hBr4 hbel4 hb5 HY4
    obtain ⟨v2, hv2⟩ : ∃ v2, Hid (SM.compress (SM.val m) q1 = v2) := ⟨_, rfl⟩
    rw [hv2.out]
    obtain ⟨q2, hq2⟩ : ∃ q2, Hid (SM.zeros 64 = q2) := ⟨_, rfl⟩
    rw [hq2.out]
    have hq2l : Hid (q2.length = 64) := by have : (SM.zeros 64).length = 64 := rfl
                                           rw [hq2.out] at this; exact this
    have HF : Hid (SM.out (SM.compress v2 (q2.take 56 ++ (SM.be4 (SM.hi m) ++ SM.be4 (SM.lo m)))) = SM.sum m) := by
      have := fin_two m (by rw [hu.out]; exact h56)
      rw [hq1.out, hv2.out, hq2.out] at this; exact this
    go_wp2_with (with_reducible refine wpList_put (o := ⟨none, .store 88 (.tmp 1) (.tmp 16), _, _, _, _⟩) ?g6 88 (.tmp 1) (.tmp 16) ?o6 gs 0 ?x6 (.agg (strmC v2 q2 m.length).toArray) ?y6 hBs5 (strmC v2 q2 m.length) ?v6 ?i6 ?l6 ?q6 ?_)
    try (case y6 => rfl)
    try (case x6 => rfl)
    try (case g6 => rfl)
    try (case o6 => rfl)
    try (case v6 => rfl)
    try (case i6 => exact (by rw [strm_length _ _ _ hq2l.out]; exact Tryd.size34))
    try (case l6 => (rw [strm_length _ _ _ hq2l.out, strm_length _ _ _ hq1l.out]; exact Nat.le_refl _))
    try (case q6 => exact strm_one _ _ _)
    intro w6 hu6 hB6
    rw [splice_all _ _ (by rw [strm_length _ _ _ hq2l.out, strm_length _ _ _ hq1l.out])] at hB6
    have hBr6 := hBr5.upd hu6 (by omega)
    have hbel6 := hbel5.trans (hu6.below (B := w.heap.size) (by omega))
    clear hBs5 hBr5 hbel5 hu6
    have hc72 := hB6.cell (strm_len _ q2 _ hq2l.out)
    have hhi := Lib.hid (hi_eq m hl)
    have hlo := Lib.hid (lo_eq m)
    go_wp2_with (with_reducible refine wpList_cutL (o := ⟨some 21, .slice 84 (.tmp 20) (some (.const (.int .i64 56))) none none, _, _, _, _⟩) ?g7a 84 (.tmp 20) (.const (.int .i64 56)) ?o7a gs 8 ?x7a 56 ?y7a 64 5 ?u7a ?i7a ?k7a ?_)
    try (case x7a => rfl)
    try (case g7a => rfl)
    try (case o7a => rfl)
    try (case y7a => rfl)
    try (case u7a => exact Tryd.underlying84)
    try (case i7a => exact Tryd.size5)
    try (case k7a => decide)
    go_wp2_with fail
    (with_reducible refine (putWord_eq gs 64 8 8 (SM.hi m) _ hhi _ _ _ (by decide) hB6 (by rw [strm_length _ _ _ hq2l.out]; exact of_decide_eq_true rfl)).mono ?_)
    rintro e w7 ⟨rfl, hu7, hB7⟩
    rw [strm_hi _ _ _ _ hq2l.out rfl] at hB7
    have hBr7 := hBr6.upd hu7 (by omega)
    have hbel7 := hbel6.trans (hu7.below (B := w.heap.size) (by omega))
    have hq3l : Hid ((splice q2 56 (SM.be4 (SM.hi m))).length = 64) := by
      have : (splice q2 56 (SM.be4 (SM.hi m))).length = 64 := by rw [splice_len, hq2l.out]; rfl
      exact this
    clear hB6 hBr6 hbel6 hu7 hc72 hhi
    go_wp2_with (with_reducible refine wpList_cutL (o := ⟨some 27, .slice 84 (.tmp 26) (some (.const (.int .i64 60))) none none, _, _, _, _⟩) ?g8a 84 (.tmp 26) (.const (.int .i64 60)) ?o8a gs 8 ?x8a 60 ?y8a 64 5 ?u8a ?i8a ?k8a ?_)
    try (case x8a => rfl)
    try (case g8a => rfl)
    try (case o8a => rfl)
    try (case y8a => rfl)
    try (case u8a => exact Tryd.underlying84)
    try (case i8a => exact Tryd.size5)
    try (case k8a => decide)
    go_wp2_with fail
    (with_reducible refine (putWord_eq gs 68 4 4 (SM.lo m) _ hlo _ _ _ (by decide) hB7 (by rw [strm_length _ _ _ hq3l.out]; exact of_decide_eq_true rfl)).mono ?_)
    rintro e w8 ⟨rfl, hu8, hB8⟩
    rw [strm_lo _ _ _ _ hq3l.out rfl, tail_bytes _ _ _ hq2l.out rfl rfl] at hB8
    have hBr8 := hBr7.upd hu8 (by omega)
    have hbel8 := hbel7.trans (hu8.below (B := w.heap.size) (by omega))
    clear hB7 hBr7 hbel7 hu8 hlo
    obtain ⟨q4, hq4⟩ : ∃ q4, Hid (q2.take 56 ++ (SM.be4 (SM.hi m) ++ SM.be4 (SM.lo m)) = q4) := ⟨_, rfl⟩
    have hq4l : Hid (q4.length = 64) := by
      have : (q2.take 56 ++ (SM.be4 (SM.hi m) ++ SM.be4 (SM.lo m))).length = 64 := by rw [List.length_append, List.length_take, hq2l.out]; rfl
      rw [hq4.out] at this; exact this
    rw [hq4.out] at hB8 HF
    have HY8 := HY.next hbel8
    go_wp2_with (with_reducible refine wpList_get (o := ⟨some 31, .load 88 (.tmp 1), _, _, _, _⟩) ?g9a 88 (.tmp 1) ?o9a gs 0 ?x9a hB8 (strmC v2 q4 m.length) ?c9a d34 ?u9a ?d9a ?i9a ?_)
    try (case x9a => rfl)
    try (case g9a => rfl)
    try (case o9a => rfl)
    try (case c9a => (exact cs_all _))
    try (case u9a => exact HD34.out)
    try (case d9a => first | rfl | assumption)
    try (case i9a => (rw [strm_length _ _ _ hq4l.out]; exact Tryd.size34))
    go_wp2_with fail
    (with_reducible refine (compressed_any v2 q4 m.length _ hq4l.out HY8).mono ?_)
    rintro e w9 ⟨rfl, hb9⟩
    have hBs9 := hB8.next hb9 hB8.lt
    have hBr9 := hBr8.next hb9 hBr8.lt
    have hbel9 := hbel8.trans (hb9.mono hbel8.size)
    clear hB8 hBr8 hbel8 hb9 HY8
    obtain ⟨v5, hv5⟩ : ∃ v5, Hid (SM.compress v2 q4 = v5) := ⟨_, rfl⟩
    rw [hv5.out] at HF ⊢
    go_wp2_with (with_reducible refine wpList_put (o := ⟨none, .store 88 (.tmp 1) (.tmp 32), _, _, _, _⟩) ?g10a 88 (.tmp 1) (.tmp 32) ?o10a gs 0 ?x10a (.agg (strmC v5 (SM.zeros 64) m.length).toArray) ?y10a hBs9 (strmC v5 (SM.zeros 64) m.length) ?v10a ?i10a ?l10a ?q10a ?_)
    try (case y10a => rfl)
    try (case x10a => rfl)
    try (case g10a => rfl)
    try (case o10a => rfl)
    try (case v10a => rfl)
    try (case i10a => exact (by rw [strm_length _ _ _ rfl]; exact Tryd.size34))
    try (case l10a => (rw [strm_length _ _ _ rfl, strm_length _ _ _ hq4l.out]; exact Nat.le_refl _))
    try (case q10a => exact strm_one _ _ _)
    intro w10 hu10 hB10
    rw [splice_all _ _ (by rw [strm_length _ _ _ rfl, strm_length _ _ _ hq4l.out])] at hB10
    have hBr10 := hBr9.upd hu10 (by omega)
    have hbel10 := hbel9.trans (hu10.below (B := w.heap.size) (by omega))
    clear hBs9 hBr9 hbel9 hu10
    go_wp2_with (with_reducible refine wpList_alloc (o := ⟨some 5, .alloc 76, _, _, _, _⟩) ?g11a 76 ?o11a (aggB (SM.zeros 32)) zero32 ?z11a ?c11a ?_)
    try (case g11a => rfl)
    try (case o11a => rfl)
    try (case z11a => exact Tryd.zero24)
    try (case c11a => rfl)
    intro gd w11 hgd hs11 hb11 hB11
    have hlt3 : gr < gd := by have := hBr10.lt; have := hgd.out; omega
    have hBs11 := hB10.next hb11 (by omega)
    have hBr11 := hBr10.next hb11 hlt3
    have hbel11 := hbel10.trans (hb11.mono (by omega))
    clear hB10 hBr10 hbel10 hb11 hgd hs11
    go_wp2_with (with_reducible refine wpList_get (o := ⟨some 34, .load 86 (.tmp 33), _, _, _, _⟩) ?g12a 86 (.tmp 33) ?o12a gs 0 ?x12a hBs11 (v5.list.map W32) ?c12a (.array 8 85) ?u12a ?d12a ?i12a ?_)
    try (case x12a => rfl)
    try (case g12a => rfl)
    try (case o12a => rfl)
    try (case c12a => (exact strm_value _ _ _))
    try (case u12a => exact Tryd.underlying86)
    try (case d12a => first | rfl | assumption)
    try (case i12a => exact Tryd.size30)
    go_wp2
    go_loopw [35] (OutRel v5 w.heap.size gd gr w) (fun i _ => 8 - (intOf i).toNat)
    case atStart => exact ⟨0, by omega, rfl, hB11, hBr11, hbel11⟩
    case round =>
      obtain ⟨k, hk, rfl, hBd, hBr, hbel⟩ := hrel
      by_cases hk8 : k < 8
      · obtain ⟨dd, hd1, hd2⟩ := Tryd.under29
        have HD := Lib.hid hd1
        clear hd1
        have hl8 := Lib.hid (list_at v5 k hk8)
        have hsn := Lib.hid (outRow_snoc v5 k hk8)
        generalize hx : v5.list.getD k 0 = x at hl8 hsn
        have hx' := Lib.hid hx
        clear hx
        go_wp2_with (first | (with_reducible refine wpList_idx (o := ⟨some 38, .index 86 (.tmp 34) (.tmp 35), _, _, _, _⟩) ?g13a 86 (.tmp 34) (.tmp 35) ?o13a 85 8 k (v5.list.map W32) (.int .u32 (x.toNat : Int)) dd ?x13a ?y13a ?u13a ?i13a ?e13a ?d13a ?k13a ?l13a ?_) | (with_reducible refine wpList_cutL (o := ⟨some 41, .slice 76 (.tmp 5) (some (.tmp 40)) none none, _, _, _, _⟩) ?g14a 76 (.tmp 5) (.tmp 40) ?o14a gd 0 ?x14a (4 * k) ?y14a 32 5 ?u14a ?i14a ?k14a ?_))
        try (case x13a => rfl)
        try (case g13a => rfl)
        try (case o13a => rfl)
        try (case y13a => rfl)
        try (case u13a => exact Tryd.underlying86)
        try (case i13a => exact Tryd.size29)
        try (case e13a => exact HD.out)
        try (case d13a => first | rfl | assumption)
        try (case k13a => exact hk8)
        try (case l13a => exact hl8.out)
        try (case x14a => rfl)
        try (case g14a => rfl)
        try (case o14a => rfl)
        try (case y14a => (exact int_mul4 k))
        try (case u14a => exact Tryd.underlying76)
        try (case i14a => exact Tryd.size5)
        try (case k14a => omega)
        have hxx : Hid ((x.toNat : Int) = (x.toNat : Int)) := rfl
        (with_reducible refine (putWord_eq gd (4 * k) _ _ x _ hxx _ _ _ (by omega) hBd (by rw [outRow_length _ _ hk]; omega)).mono ?_)
        rintro e w12 ⟨rfl, hu12, hB12⟩
        rw [hsn.out] at hB12
        have hBr12 := hBr.upd hu12 (by omega)
        have hbel12 := hbel.trans (hu12.below (B := w.heap.size) (by omega))
        clear hBd hBr hbel hu12 hsn
        go_wp2
        go_roundw
        case rel => exact ⟨k + 1, by omega, by go_num, hB12, hBr12, hbel12⟩
        case measure => simp [intOf]; omega
      · obtain rfl : k = 8 := by omega
        rw [outRow_all, HF.out] at hBd
        have hsl : Hid (((SM.sum m).map B8).length = 32) := by have : ((SM.sum m).map B8).length = 32 := by rw [List.length_map, SM.sum_length]
                                                               exact this
        obtain ⟨S, hS⟩ : ∃ S, Hid (SM.sum m = S) := ⟨_, rfl⟩
        rw [hS.out] at hBd hsl
        clear HF
        go_wp2_with (first | (with_reducible refine wpList_get (o := ⟨some 45, .load 76 (.tmp 5), _, _, _, _⟩) ?g15a 76 (.tmp 5) ?o15a gd 0 ?x15a hBd (S.map B8) ?c15a (.array 32 5) ?u15a ?d15a ?i15a ?_) | (with_reducible refine wpList_put (o := ⟨none, .store 76 (.tmp 2) (.tmp 45), _, _, _, _⟩) ?g16a 76 (.tmp 2) (.tmp 45) ?o16a gr 0 ?x16a (.agg (S.map B8).toArray) ?y16a hBr (S.map B8) ?v16a ?i16a ?l16a ?q16a ?_))
        try (case x15a => rfl)
        try (case g15a => rfl)
        try (case o15a => rfl)
        try (case c15a => (exact cs_all _))
        try (case u15a => exact Tryd.underlying76)
        try (case d15a => first | rfl | assumption)
        try (case i15a => (rw [hsl.out]; exact Tryd.size24))
        try (case y16a => rfl)
        try (case x16a => rfl)
        try (case g16a => rfl)
        try (case o16a => rfl)
        try (case v16a => rfl)
        try (case i16a => exact (by rw [hsl.out]; exact Tryd.size24))
        try (case l16a => (rw [hsl.out]; exact Nat.le_refl _))
        try (case q16a => exact B8_one _)
        intro w13 hu13 hB13
        rw [splice_all _ _ (by rw [hsl.out]; rfl)] at hB13
        have hbel13 := hbel.trans (hu13.below (B := w.heap.size) (by omega))
        clear hBd hBr hbel hu13
        go_wp2
        refine bodyPost_ret (results_cell_row rfl _ _ gr _ _ _ _ rfl hB13 Tryd.underlying76 rfl (by rw [List.size_toArray, hsl.out]; exact Tryd.size24)) rfl ⟨by rw [hS.out], hbel13⟩
  · obtain ⟨v2, hv2⟩ : ∃ v2, Hid (SM.val m = v2) := ⟨_, rfl⟩
    rw [hv2.out] at hB4
    have HF : Hid (SM.out (SM.compress v2 (q1.take 56 ++ (SM.be4 (SM.hi m) ++ SM.be4 (SM.lo m)))) = SM.sum m) := by
      have := fin_one m (by rw [hu.out]; omega)
      rw [hq1.out, hv2.out] at this; exact this
    have hq2l := hq1l
    have hB6 := hB4
    have hBr6 := hBr4
    have hbel6 := hbel4
    clear hB4 hBr4 hbel4
    rename List UInt8 => q2
    have hc72 := hB6.cell (strm_len _ q2 _ hq2l.out)
    have hhi := Lib.hid (hi_eq m hl)
    have hlo := Lib.hid (lo_eq m)
    go_wp2_with (with_reducible refine wpList_cutL (o := ⟨some 21, .slice 84 (.tmp 20) (some (.const (.int .i64 56))) none none, _, _, _, _⟩) ?g7b 84 (.tmp 20) (.const (.int .i64 56)) ?o7b gs 8 ?x7b 56 ?y7b 64 5 ?u7b ?i7b ?k7b ?_)
    try (case x7b => rfl)
    try (case g7b => rfl)
    try (case o7b => rfl)
    try (case y7b => rfl)
    try (case u7b => exact Tryd.underlying84)
    try (case i7b => exact Tryd.size5)
    try (case k7b => decide)
    go_wp2_with fail
    (with_reducible refine (putWord_eq gs 64 8 8 (SM.hi m) _ hhi _ _ _ (by decide) hB6 (by rw [strm_length _ _ _ hq2l.out]; exact of_decide_eq_true rfl)).mono ?_)
    rintro e w7 ⟨rfl, hu7, hB7⟩
    rw [strm_hi _ _ _ _ hq2l.out rfl] at hB7
    have hBr7 := hBr6.upd hu7 (by omega)
    have hbel7 := hbel6.trans (hu7.below (B := w.heap.size) (by omega))
    have hq3l : Hid ((splice q2 56 (SM.be4 (SM.hi m))).length = 64) := by
      have : (splice q2 56 (SM.be4 (SM.hi m))).length = 64 := by rw [splice_len, hq2l.out]; rfl
      exact this
    clear hB6 hBr6 hbel6 hu7 hc72 hhi
    go_wp2_with (with_reducible refine wpList_cutL (o := ⟨some 27, .slice 84 (.tmp 26) (some (.const (.int .i64 60))) none none, _, _, _, _⟩) ?g8b 84 (.tmp 26) (.const (.int .i64 60)) ?o8b gs 8 ?x8b 60 ?y8b 64 5 ?u8b ?i8b ?k8b ?_)
    try (case x8b => rfl)
    try (case g8b => rfl)
    try (case o8b => rfl)
    try (case y8b => rfl)
    try (case u8b => exact Tryd.underlying84)
    try (case i8b => exact Tryd.size5)
    try (case k8b => decide)
    go_wp2_with fail
    (with_reducible refine (putWord_eq gs 68 4 4 (SM.lo m) _ hlo _ _ _ (by decide) hB7 (by rw [strm_length _ _ _ hq3l.out]; exact of_decide_eq_true rfl)).mono ?_)
    rintro e w8 ⟨rfl, hu8, hB8⟩
    rw [strm_lo _ _ _ _ hq3l.out rfl, tail_bytes _ _ _ hq2l.out rfl rfl] at hB8
    have hBr8 := hBr7.upd hu8 (by omega)
    have hbel8 := hbel7.trans (hu8.below (B := w.heap.size) (by omega))
    clear hB7 hBr7 hbel7 hu8 hlo
    obtain ⟨q4, hq4⟩ : ∃ q4, Hid (q2.take 56 ++ (SM.be4 (SM.hi m) ++ SM.be4 (SM.lo m)) = q4) := ⟨_, rfl⟩
    have hq4l : Hid (q4.length = 64) := by
      have : (q2.take 56 ++ (SM.be4 (SM.hi m) ++ SM.be4 (SM.lo m))).length = 64 := by rw [List.length_append, List.length_take, hq2l.out]; rfl
      rw [hq4.out] at this; exact this
    rw [hq4.out] at hB8 HF
    have HY8 := HY.next hbel8
    go_wp2_with (with_reducible refine wpList_get (o := ⟨some 31, .load 88 (.tmp 1), _, _, _, _⟩) ?g9b 88 (.tmp 1) ?o9b gs 0 ?x9b hB8 (strmC v2 q4 m.length) ?c9b d34 ?u9b ?d9b ?i9b ?_)
    try (case x9b => rfl)
    try (case g9b => rfl)
    try (case o9b => rfl)
    try (case c9b => (exact cs_all _))
    try (case u9b => exact HD34.out)
    try (case d9b => first | rfl | assumption)
    try (case i9b => (rw [strm_length _ _ _ hq4l.out]; exact Tryd.size34))
    go_wp2_with fail
    (with_reducible refine (compressed_any v2 q4 m.length _ hq4l.out HY8).mono ?_)
    rintro e w9 ⟨rfl, hb9⟩
    have hBs9 := hB8.next hb9 hB8.lt
    have hBr9 := hBr8.next hb9 hBr8.lt
    have hbel9 := hbel8.trans (hb9.mono hbel8.size)
    clear hB8 hBr8 hbel8 hb9 HY8
    obtain ⟨v5, hv5⟩ : ∃ v5, Hid (SM.compress v2 q4 = v5) := ⟨_, rfl⟩
    rw [hv5.out] at HF ⊢
    go_wp2_with (with_reducible refine wpList_put (o := ⟨none, .store 88 (.tmp 1) (.tmp 32), _, _, _, _⟩) ?g10b 88 (.tmp 1) (.tmp 32) ?o10b gs 0 ?x10b (.agg (strmC v5 (SM.zeros 64) m.length).toArray) ?y10b hBs9 (strmC v5 (SM.zeros 64) m.length) ?v10b ?i10b ?l10b ?q10b ?_)
    try (case y10b => rfl)
    try (case x10b => rfl)
    try (case g10b => rfl)
    try (case o10b => rfl)
    try (case v10b => rfl)
    try (case i10b => exact (by rw [strm_length _ _ _ rfl]; exact Tryd.size34))
    try (case l10b => (rw [strm_length _ _ _ rfl, strm_length _ _ _ hq4l.out]; exact Nat.le_refl _))
    try (case q10b => exact strm_one _ _ _)
    intro w10 hu10 hB10
    rw [splice_all _ _ (by rw [strm_length _ _ _ rfl, strm_length _ _ _ hq4l.out])] at hB10
    have hBr10 := hBr9.upd hu10 (by omega)
    have hbel10 := hbel9.trans (hu10.below (B := w.heap.size) (by omega))
    clear hBs9 hBr9 hbel9 hu10
    go_wp2_with (with_reducible refine wpList_alloc (o := ⟨some 5, .alloc 76, _, _, _, _⟩) ?g11b 76 ?o11b (aggB (SM.zeros 32)) zero32 ?z11b ?c11b ?_)
    try (case g11b => rfl)
    try (case o11b => rfl)
    try (case z11b => exact Tryd.zero24)
    try (case c11b => rfl)
    intro gd w11 hgd hs11 hb11 hB11
    have hlt3 : gr < gd := by have := hBr10.lt; have := hgd.out; omega
    have hBs11 := hB10.next hb11 (by omega)
    have hBr11 := hBr10.next hb11 hlt3
    have hbel11 := hbel10.trans (hb11.mono (by omega))
    clear hB10 hBr10 hbel10 hb11 hgd hs11
    go_wp2_with (with_reducible refine wpList_get (o := ⟨some 34, .load 86 (.tmp 33), _, _, _, _⟩) ?g12b 86 (.tmp 33) ?o12b gs 0 ?x12b hBs11 (v5.list.map W32) ?c12b (.array 8 85) ?u12b ?d12b ?i12b ?_)
    try (case x12b => rfl)
    try (case g12b => rfl)
    try (case o12b => rfl)
    try (case c12b => (exact strm_value _ _ _))
    try (case u12b => exact Tryd.underlying86)
    try (case d12b => first | rfl | assumption)
    try (case i12b => exact Tryd.size30)
    go_wp2
    go_loopw [35] (OutRel v5 w.heap.size gd gr w) (fun i _ => 8 - (intOf i).toNat)
    case atStart => exact ⟨0, by omega, rfl, hB11, hBr11, hbel11⟩
    case round =>
      obtain ⟨k, hk, rfl, hBd, hBr, hbel⟩ := hrel
      by_cases hk8 : k < 8
      · obtain ⟨dd, hd1, hd2⟩ := Tryd.under29
        have HD := Lib.hid hd1
        clear hd1
        have hl8 := Lib.hid (list_at v5 k hk8)
        have hsn := Lib.hid (outRow_snoc v5 k hk8)
        generalize hx : v5.list.getD k 0 = x at hl8 hsn
        have hx' := Lib.hid hx
        clear hx
        go_wp2_with (first | (with_reducible refine wpList_idx (o := ⟨some 38, .index 86 (.tmp 34) (.tmp 35), _, _, _, _⟩) ?g13b 86 (.tmp 34) (.tmp 35) ?o13b 85 8 k (v5.list.map W32) (.int .u32 (x.toNat : Int)) dd ?x13b ?y13b ?u13b ?i13b ?e13b ?d13b ?k13b ?l13b ?_) | (with_reducible refine wpList_cutL (o := ⟨some 41, .slice 76 (.tmp 5) (some (.tmp 40)) none none, _, _, _, _⟩) ?g14b 76 (.tmp 5) (.tmp 40) ?o14b gd 0 ?x14b (4 * k) ?y14b 32 5 ?u14b ?i14b ?k14b ?_))
        try (case x13b => rfl)
        try (case g13b => rfl)
        try (case o13b => rfl)
        try (case y13b => rfl)
        try (case u13b => exact Tryd.underlying86)
        try (case i13b => exact Tryd.size29)
        try (case e13b => exact HD.out)
        try (case d13b => first | rfl | assumption)
        try (case k13b => exact hk8)
        try (case l13b => exact hl8.out)
        try (case x14b => rfl)
        try (case g14b => rfl)
        try (case o14b => rfl)
        try (case y14b => (exact int_mul4 k))
        try (case u14b => exact Tryd.underlying76)
        try (case i14b => exact Tryd.size5)
        try (case k14b => omega)
        have hxx : Hid ((x.toNat : Int) = (x.toNat : Int)) := rfl
        (with_reducible refine (putWord_eq gd (4 * k) _ _ x _ hxx _ _ _ (by omega) hBd (by rw [outRow_length _ _ hk]; omega)).mono ?_)
        rintro e w12 ⟨rfl, hu12, hB12⟩
        rw [hsn.out] at hB12
        have hBr12 := hBr.upd hu12 (by omega)
        have hbel12 := hbel.trans (hu12.below (B := w.heap.size) (by omega))
        clear hBd hBr hbel hu12 hsn
        go_wp2
        go_roundw
        case rel => exact ⟨k + 1, by omega, by go_num, hB12, hBr12, hbel12⟩
        case measure => simp [intOf]; omega
      · obtain rfl : k = 8 := by omega
        rw [outRow_all, HF.out] at hBd
        have hsl : Hid (((SM.sum m).map B8).length = 32) := by have : ((SM.sum m).map B8).length = 32 := by rw [List.length_map, SM.sum_length]
                                                               exact this
        obtain ⟨S, hS⟩ : ∃ S, Hid (SM.sum m = S) := ⟨_, rfl⟩
        rw [hS.out] at hBd hsl
        clear HF
        go_wp2_with (first | (with_reducible refine wpList_get (o := ⟨some 45, .load 76 (.tmp 5), _, _, _, _⟩) ?g15b 76 (.tmp 5) ?o15b gd 0 ?x15b hBd (S.map B8) ?c15b (.array 32 5) ?u15b ?d15b ?i15b ?_) | (with_reducible refine wpList_put (o := ⟨none, .store 76 (.tmp 2) (.tmp 45), _, _, _, _⟩) ?g16b 76 (.tmp 2) (.tmp 45) ?o16b gr 0 ?x16b (.agg (S.map B8).toArray) ?y16b hBr (S.map B8) ?v16b ?i16b ?l16b ?q16b ?_))
        try (case x15b => rfl)
        try (case g15b => rfl)
        try (case o15b => rfl)
        try (case c15b => (exact cs_all _))
        try (case u15b => exact Tryd.underlying76)
        try (case d15b => first | rfl | assumption)
        try (case i15b => (rw [hsl.out]; exact Tryd.size24))
        try (case y16b => rfl)
        try (case x16b => rfl)
        try (case g16b => rfl)
        try (case o16b => rfl)
        try (case v16b => rfl)
        try (case i16b => exact (by rw [hsl.out]; exact Tryd.size24))
        try (case l16b => (rw [hsl.out]; exact Nat.le_refl _))
        try (case q16b => exact B8_one _)
        intro w13 hu13 hB13
        rw [splice_all _ _ (by rw [hsl.out]; rfl)] at hB13
        have hbel13 := hbel.trans (hu13.below (B := w.heap.size) (by omega))
        clear hBd hBr hbel hu13
        go_wp2
        refine bodyPost_ret (results_cell_row rfl _ _ gr _ _ _ _ rfl hB13 Tryd.underlying76 rfl (by rw [List.size_toArray, hsl.out]; exact Tryd.size24)) rfl ⟨by rw [hS.out], hbel13⟩
end Go.Proofs.YtkakiepaffhhjaaDoor

/-
  Plain facts on the encodings of chapter 1 (integers in base 128, byte strings, lists), on lists of bytes; nothing of the program is imported. Conditions: none.
-/
namespace Go.Proofs.YtkakiepaffhhjaaDoor
namespace WM

/-- The digits of z. -/
def encN (z : Nat) : List UInt8 :=
  if z < 128 then [UInt8.ofNat z] else UInt8.ofNat (z % 128 + 128) :: encN (z / 128)
termination_by z
decreasing_by omega

def fold (n : Int) : Nat := if n < 0 then (-2 * n - 1).toNat else (2 * n).toNat
def unf (z : Nat) : Int := if z % 2 = 1 then -1 - ((z / 2 : Nat) : Int) else ((z / 2 : Nat) : Int)
def encI (n : Int) : List UInt8 := encN (fold n)

/-- How many of the first f bytes stand ahead of the first one below 128. -/
def lead : Nat → List UInt8 → Nat
  | 0, _ => 0
  | _ + 1, [] => 0
  | f + 1, c :: r => if c.toNat < 128 then 0 else lead f r + 1

def val : List UInt8 → Nat
  | [] => 0
  | c :: r => c.toNat % 128 + 128 * val r

def bad (k : Nat) (c : UInt8) : Bool := (k == 9 && decide (1 < c.toNat)) || (decide (0 < k) && c.toNat == 0)

def getI (l : List UInt8) : Int × Nat × Int :=
  if lead 10 l = 10 then (0, 0, 6)
  else if lead 10 l = l.length then (0, 0, 5)
  else if bad (lead 10 l) (l.getD (lead 10 l) 0) = true then (0, 0, 6)
  else (unf (val (l.take (lead 10 l + 1))), lead 10 l + 1, 0)

theorem fold_unf (z : Nat) : fold (unf z) = z := by
  unfold fold unf
  by_cases h : z % 2 = 1
  · simp only [h, if_true]
    rw [if_pos (by omega)]; omega
  · rw [if_neg h, if_neg (by omega)]; omega
theorem unf_fold (n : Int) : unf (fold n) = n := by
  unfold fold unf
  by_cases h : n < 0
  · simp only [if_pos h]
    rw [if_pos (by omega)]; omega
  · simp only [if_neg h]
    rw [if_neg (by omega)]; omega
theorem fold_lt {n : Int} (h1 : -9223372036854775808 ≤ n) (h2 : n ≤ 9223372036854775807) : fold n < 18446744073709551616 := by
  unfold fold; split <;> omega
theorem unf_in {z : Nat} (h : z < 18446744073709551616) : -9223372036854775808 ≤ unf z ∧ unf z ≤ 9223372036854775807 := by
  unfold unf; split <;> omega
theorem fold_neg (n : Int) : fold (-1 - n) / 2 = fold n / 2 := by
  unfold fold; split <;> split <;> omega
theorem fold_half (n : Int) : ((fold n / 2 : Nat) : Int) = if n < 0 then -1 - n else n := by
  unfold fold; split <;> omega

theorem byte_lo {z : Nat} (h : z < 128) : (UInt8.ofNat z).toNat = z := by
  simp [UInt8.toNat_ofNat']; omega
theorem byte_hi (z : Nat) : (UInt8.ofNat (z % 128 + 128)).toNat = z % 128 + 128 := by
  simp [UInt8.toNat_ofNat']; omega

theorem encN_lo {z : Nat} (h : z < 128) : encN z = [UInt8.ofNat z] := by rw [encN, if_pos h]
theorem encN_hi {z : Nat} (h : ¬ z < 128) : encN z = UInt8.ofNat (z % 128 + 128) :: encN (z / 128) := by rw [encN, if_neg h]

theorem encN_pos (z : Nat) : 1 ≤ (encN z).length := by
  by_cases h : z < 128
  · rw [encN_lo h]; simp
  · rw [encN_hi h]; simp
theorem encN_le : ∀ (k z : Nat), z < 128 ^ (k + 1) → (encN z).length ≤ k + 1
  | 0, z, h => by rw [encN_lo (by simpa using h)]; simp
  | k + 1, z, h => by
    by_cases h1 : z < 128
    · rw [encN_lo h1]; simp
    · rw [encN_hi h1]
      have := encN_le k (z / 128) (by rw [Nat.pow_succ] at h; omega)
      simp; omega
theorem encN_le10 {z : Nat} (h : z < 18446744073709551616) : (encN z).length ≤ 10 := encN_le 9 z (by omega)
theorem val_encN (z : Nat) : val (encN z) = z := by
  induction z using Nat.strongRecOn with
  | ind z ih =>
    by_cases h : z < 128
    · rw [encN_lo h]; simp only [val, byte_lo h]; omega
    · rw [encN_hi h]; simp only [val, byte_hi]; rw [ih (z / 128) (by omega)]; omega

theorem encN_mono : ∀ (a b : Nat), a ≤ b → (encN a).length ≤ (encN b).length := by
  intro a
  induction a using Nat.strongRecOn with
  | ind a ih =>
    intro b hab
    by_cases ha : a < 128
    · rw [encN_lo ha]; exact encN_pos b
    · rw [encN_hi ha, encN_hi (show ¬ b < 128 by omega)]
      have := ih (a / 128) (by omega) (b / 128) (by omega)
      simpa using this

/-- Whether two numbers have equally long encodings depends on their halves alone. -/
theorem encN_half (a b : Nat) (h : a / 2 = b / 2) : (encN a).length = (encN b).length := by
  by_cases ha : a < 128
  · rw [encN_lo ha, encN_lo (by omega)]; rfl
  · rw [encN_hi ha, encN_hi (show ¬ b < 128 by omega)]
    have e : a / 128 = b / 128 := by omega
    simp [e]

/-- All bytes but the last one are at least 128. -/
theorem encN_lead : ∀ (z : Nat) (t : List UInt8) (f : Nat), (encN z).length ≤ f → lead f (encN z ++ t) = (encN z).length - 1 := by
  intro z
  induction z using Nat.strongRecOn with
  | ind z ih =>
    intro t f hf
    by_cases h : z < 128
    · rw [encN_lo h] at hf ⊢
      cases f with
      | zero => simp at hf
      | succ f => simp [lead, byte_lo h, h]
    · rw [encN_hi h] at hf ⊢
      cases f with
      | zero => simp at hf
      | succ f =>
        have := ih (z / 128) (by omega) t f (by simpa using hf)
        have hp := encN_pos (z / 128)
        simp only [List.cons_append, lead, byte_hi, List.length_cons]
        rw [if_neg (by omega), this]; omega
theorem encN_prefix_lead : ∀ (z j f : Nat), j < (encN z).length → j < f → lead f ((encN z).take j) = j := by
  intro z
  induction z using Nat.strongRecOn with
  | ind z ih =>
    intro j f hj hf
    by_cases h : z < 128
    · rw [encN_lo h] at hj ⊢
      simp at hj; subst hj; cases f <;> simp [lead]
    · rw [encN_hi h] at hj ⊢
      cases j with
      | zero => cases f <;> simp [lead]
      | succ j =>
        cases f with
        | zero => omega
        | succ f =>
          have := ih (z / 128) (by omega) j f (by simpa using hj) (by omega)
          simp only [List.take_succ_cons, lead, byte_hi]
          rw [if_neg (by omega), this]
theorem encN_last : ∀ (z : Nat) (t : List UInt8), ((encN z ++ t).getD ((encN z).length - 1) 0).toNat = z / 128 ^ ((encN z).length - 1) ∧ (1 < (encN z).length → 0 < z / 128 ^ ((encN z).length - 1)) := by
  intro z
  induction z using Nat.strongRecOn with
  | ind z ih =>
    intro t
    by_cases h : z < 128
    · rw [encN_lo h]; simp [byte_lo h]
    · rw [encN_hi h]
      obtain ⟨h1, h2⟩ := ih (z / 128) (by omega) t
      have hp := encN_pos (z / 128)
      obtain ⟨m, hm⟩ : ∃ m, (encN (z / 128)).length = m + 1 := ⟨(encN (z / 128)).length - 1, by omega⟩
      rw [hm] at h1 h2
      simp only [Nat.add_sub_cancel, List.cons_append, List.length_cons, hm] at h1 h2 ⊢
      rw [Nat.div_div_eq_div_mul] at h1 h2
      refine ⟨?_, fun _ => ?_⟩
      · rw [Nat.pow_succ, Nat.mul_comm]
        simpa using h1
      · rw [Nat.pow_succ, Nat.mul_comm]
        rcases Nat.eq_zero_or_pos m with h0 | h0
        · subst h0; simp; omega
        · exact h2 (by omega)

theorem getI_enc {z : Nat} (h : z < 18446744073709551616) (t : List UInt8) : getI (encN z ++ t) = (unf z, (encN z).length, 0) := by
  have hl := encN_le10 h
  have hp := encN_pos z
  have hk := encN_lead z t 10 hl
  obtain ⟨h1, h2⟩ := encN_last z t
  unfold getI
  rw [hk, if_neg (by omega), if_neg (by simp; omega), if_neg, show (encN z).length - 1 + 1 = (encN z).length by omega, List.take_left, val_encN]
  simp only [bad, Bool.or_eq_true, Bool.and_eq_true, beq_iff_eq, decide_eq_true_eq, h1, not_or, not_and]
  refine ⟨fun h9 => ?_, fun hg => ?_⟩
  · rw [h9]; omega
  · have := h2 (by omega); omega
theorem getI_encI {n : Int} (h1 : -9223372036854775808 ≤ n) (h2 : n ≤ 9223372036854775807) (t : List UInt8) : getI (encI n ++ t) = (n, (encI n).length, 0) := by
  unfold encI; rw [getI_enc (fold_lt h1 h2), unf_fold]
theorem getI_prefix {z j : Nat} (h : z < 18446744073709551616) (hj : j < (encN z).length) : getI ((encN z).take j) = (0, 0, 5) := by
  have hl := encN_le10 h
  have hk := encN_prefix_lead z j 10 hj (by omega)
  unfold getI
  rw [hk, if_neg (by omega), if_pos (by simp; omega)]

theorem lead_le : ∀ (f : Nat) (l : List UInt8), lead f l ≤ f ∧ lead f l ≤ l.length
  | 0, l => by simp [lead]
  | f + 1, [] => by simp [lead]
  | f + 1, c :: r => by
    have := lead_le f r
    simp only [lead]; split <;> simp <;> omega
theorem lead_lt : ∀ (f : Nat) (l : List UInt8), lead f l < f → lead f l < l.length → (l.getD (lead f l) 0).toNat < 128
  | 0, l, h, _ => by omega
  | f + 1, [], _, h => by simp [lead] at h
  | f + 1, c :: r, h1, h2 => by
    simp only [lead] at h1 h2 ⊢
    by_cases hc : c.toNat < 128
    · simp [hc]
    · rw [if_neg hc] at h1 h2 ⊢
      have := lead_lt f r (by omega) (by simpa using h2)
      simpa using this
theorem encN_val : ∀ (f : Nat) (l : List UInt8), lead f l < f → lead f l < l.length → (0 < lead f l → (l.getD (lead f l) 0).toNat ≠ 0) → encN (val (l.take (lead f l + 1))) = l.take (lead f l + 1) ∧ (0 < lead f l → 0 < val (l.take (lead f l + 1)))
  | 0, l, h, _, _ => by omega
  | f + 1, [], _, h, _ => by simp [lead] at h
  | f + 1, c :: r, h1, h2, h3 => by
    simp only [lead] at h1 h2 h3 ⊢
    by_cases hc : c.toNat < 128
    · simp only [if_pos hc, Nat.zero_add, List.take_succ_cons, List.take_zero, val]
      refine ⟨?_, fun h => by omega⟩
      rw [show c.toNat % 128 + 128 * 0 = c.toNat by omega, encN_lo hc]; simp
    · simp only [if_neg hc] at h1 h2 h3 ⊢
      have hr := lead_lt f r (by omega) (by simpa using h2)
      have h3' : (r.getD (lead f r) 0).toNat ≠ 0 := by simpa using h3 (by omega)
      obtain ⟨ih, ih2⟩ := encN_val f r (by omega) (by simpa using h2) (fun _ => h3')
      rw [List.take_succ_cons]
      simp only [val]
      have hv : 0 < val (r.take (lead f r + 1)) := by
        rcases Nat.eq_zero_or_pos (lead f r) with h0 | h0
        · rw [h0] at h3' ⊢
          cases r with
          | nil => simp at h2
          | cons d r =>
            simp only [List.take_succ_cons, List.take_zero, val] at h3' ⊢
            rw [h0] at hr; simp at hr h3'; omega
        · exact ih2 h0
      refine ⟨?_, fun _ => by omega⟩
      have hcb := c.toNat_lt
      rw [encN_hi (by omega)]
      congr 1
      · apply UInt8.toNat_inj.1; rw [byte_hi]; omega
      · exact (congrArg encN (by omega)).trans ih
theorem val_lt : ∀ (l : List UInt8), val l < 128 ^ l.length
  | [] => by simp [val]
  | c :: r => by
    have := val_lt r
    simp only [val, List.length_cons, Nat.pow_succ]; omega
theorem val_append : ∀ (l m : List UInt8), val (l ++ m) = val l + 128 ^ l.length * val m
  | [], m => by simp [val]
  | c :: r, m => by
    simp only [List.cons_append, val, val_append r m, List.length_cons, Nat.pow_succ]
    rw [Nat.mul_add, Nat.add_assoc, ← Nat.mul_assoc, Nat.mul_comm (128 ^ r.length) 128]
theorem val_take (l : List UInt8) (k : Nat) (hk : k < l.length) : val (l.take (k + 1)) = val (l.take k) + 128 ^ k * ((l.getD k 0).toNat % 128) := by
  rw [List.take_succ_eq_append_getElem hk, val_append, List.length_take, Nat.min_eq_left (by omega)]
  simp [val, hk]

/-- What getI says if it succeeds. -/
theorem getI_ok {l : List UInt8} {n : Int} {u : Nat} (h : getI l = (n, u, 0)) : u ≤ l.length ∧ 1 ≤ u ∧ u ≤ 10 ∧ l.take u = encI n ∧ -9223372036854775808 ≤ n ∧ n ≤ 9223372036854775807 := by
  unfold getI at h
  have hle := lead_le 10 l
  by_cases h1 : lead 10 l = 10
  · simp [h1] at h
  rw [if_neg h1] at h
  by_cases h2 : lead 10 l = l.length
  · simp [h2] at h
  rw [if_neg h2] at h
  by_cases h3 : bad (lead 10 l) (l.getD (lead 10 l) 0) = true
  · rw [if_pos h3] at h; simp at h
  rw [if_neg h3] at h
  simp only [bad, Bool.or_eq_true, Bool.and_eq_true, beq_iff_eq, decide_eq_true_eq, not_or, not_and] at h3
  obtain ⟨h4, h5⟩ := h3
  have hlt := lead_lt 10 l (by omega) (by omega)
  obtain ⟨e, _⟩ := encN_val 10 l (by omega) (by omega) h5
  simp only [Prod.mk.injEq] at h
  obtain ⟨rfl, rfl, _⟩ := h
  have hv : val (l.take (lead 10 l + 1)) < 18446744073709551616 := by
    rw [val_take l _ (by omega)]
    have hb := val_lt (l.take (lead 10 l))
    rw [List.length_take, Nat.min_eq_left (by omega)] at hb
    by_cases h9 : lead 10 l = 9
    · have h4' := h4 h9
      rw [h9] at hb h4' ⊢
      have : (l.getD 9 0).toNat % 128 ≤ 1 := by omega
      have : 128 ^ 9 * ((l.getD 9 0).toNat % 128) ≤ 128 ^ 9 * 1 := Nat.mul_le_mul_left _ this
      omega
    · have h8 : lead 10 l ≤ 8 := by omega
      have hm : 128 ^ lead 10 l * ((l.getD (lead 10 l) 0).toNat % 128) ≤ 128 ^ lead 10 l * 127 := Nat.mul_le_mul_left _ (by omega)
      have hp : 128 ^ lead 10 l ≤ 128 ^ 8 := Nat.pow_le_pow_right (by omega) h8
      omega
  have hi := unf_in hv
  refine ⟨by omega, by omega, by omega, ?_, hi.1, hi.2⟩
  unfold encI
  rw [fold_unf, e]
theorem getI_cases (l : List UInt8) : getI l = (0, 0, 6) ∨ getI l = (0, 0, 5) ∨ ∃ n u, getI l = (n, u, 0) := by
  unfold getI
  split
  · exact .inl rfl
  · split
    · exact .inr (.inl rfl)
    · split
      · exact .inl rfl
      · exact .inr (.inr ⟨_, _, rfl⟩)

theorem lead_eq : ∀ (f k : Nat) (l : List UInt8), (∀ j, j < k → 128 ≤ (l.getD j 0).toNat) → k ≤ l.length → k ≤ f → (k = f ∨ k = l.length ∨ (l.getD k 0).toNat < 128) → lead f l = k
  | 0, k, l, _, _, hf, _ => by simp [lead]; omega
  | f + 1, k, [], _, hl, _, _ => by simp at hl; simp [lead, hl]
  | f + 1, 0, c :: r, _, _, _, h => by
    have : c.toNat < 128 := by simpa using h
    simp [lead, this]
  | f + 1, k + 1, c :: r, hj, hl, hf, h => by
    have h0 := hj 0 (by omega)
    have hc : ¬ c.toNat < 128 := by simpa using h0
    simp only [lead, if_neg hc]
    rw [lead_eq f k r (fun j hjk => by simpa using hj (j + 1) (by omega)) (by simpa using hl) (by omega) (by simpa using h)]
theorem getI_far {l : List UInt8} (h : lead 10 l = 10) : getI l = (0, 0, 6) := by unfold getI; rw [if_pos h]
theorem getI_short {l : List UInt8} (h : lead 10 l = l.length) (h2 : l.length < 10) : getI l = (0, 0, 5) := by unfold getI; rw [if_neg (by omega), if_pos h]
theorem getI_bad {l : List UInt8} {k : Nat} (h : lead 10 l = k) (h1 : k < 10) (h2 : k < l.length) (hb : bad k (l.getD k 0) = true) : getI l = (0, 0, 6) := by
  unfold getI; rw [h, if_neg (by omega), if_neg (by omega), if_pos hb]
theorem getI_good {l : List UInt8} {k : Nat} (h : lead 10 l = k) (h1 : k < 10) (h2 : k < l.length) (hb : bad k (l.getD k 0) = false) : getI l = (unf (val (l.take (k + 1))), k + 1, 0) := by
  unfold getI; rw [h, if_neg (by omega), if_neg (by omega), if_neg (by rw [hb]; decide)]
theorem val_take_lt {l : List UInt8} {k : Nat} : val (l.take k) < 128 ^ k := by
  have h := val_lt (l.take k)
  exact Nat.lt_of_lt_of_le h (Nat.pow_le_pow_right (by omega) (by rw [List.length_take]; omega))
theorem val_last_lt {l : List UInt8} {k : Nat} (h1 : k < 10) (h2 : k < l.length) (hc : (l.getD k 0).toNat < 128) (hb : bad k (l.getD k 0) = false) :
    val (l.take (k + 1)) = val (l.take k) + 128 ^ k * (l.getD k 0).toNat ∧ val (l.take (k + 1)) < 18446744073709551616 := by
  have e := val_take l k h2
  rw [Nat.mod_eq_of_lt hc] at e
  refine ⟨e, ?_⟩
  rw [e]
  have hv : val (l.take k) < 128 ^ k := val_take_lt
  by_cases h9 : k = 9
  · subst h9
    have hl : (l.getD 9 0).toNat ≤ 1 := by
      simp only [bad, Bool.or_eq_false_iff, Bool.and_eq_false_iff] at hb
      rcases hb.1 with h | h
      · simp at h
      · simpa using h
    have : 128 ^ 9 * (l.getD 9 0).toNat ≤ 128 ^ 9 * 1 := Nat.mul_le_mul_left _ hl
    omega
  · have hm : 128 ^ k * (l.getD k 0).toNat ≤ 128 ^ k * 127 := Nat.mul_le_mul_left _ (by omega)
    have hp : 128 ^ k ≤ 128 ^ 8 := Nat.pow_le_pow_right (by omega) (by omega)
    omega

end WM
end Go.Proofs.YtkakiepaffhhjaaDoor

/-
  Plain facts on chapter 1's encodings of byte strings and lists: decoding undoes encoding, accepts nothing else, and every proper prefix is too short. Conditions: lengths of at most 10^9.
-/
namespace Go.Proofs.YtkakiepaffhhjaaDoor
namespace WM

/-- The length of what follows, of parts of at least s bytes each. -/
def getL (l : List UInt8) (s : Nat) : Nat × Nat × Int :=
  if (getI l).2.2 = 0 then
    if (getI l).1 < 0 then (0, 0, 6)
    else if ((l.length - (getI l).2.1) / s : Nat) < (getI l).1 then (0, 0, 5)
    else ((getI l).1.toNat, (getI l).2.1, 0)
  else (0, 0, (getI l).2.2)

def getB (l : List UInt8) : List UInt8 × Nat × Int :=
  if (getL l 1).2.2 = 0 then ((l.drop (getL l 1).2.1).take (getL l 1).1, (getL l 1).2.1 + (getL l 1).1, 0) else ([], 0, (getL l 1).2.2)

def getMany {α : Type} (get : List UInt8 → α × Nat × Int) : Nat → List UInt8 → List α × Nat × Int
  | 0, _ => ([], 0, 0)
  | n + 1, l =>
    if (get l).2.2 = 0 then
      if (getMany get n (l.drop (get l).2.1)).2.2 = 0 then ((get l).1 :: (getMany get n (l.drop (get l).2.1)).1, (get l).2.1 + (getMany get n (l.drop (get l).2.1)).2.1, 0)
      else ([], 0, (getMany get n (l.drop (get l).2.1)).2.2)
    else ([], 0, (get l).2.2)

def getAll {α : Type} (get : List UInt8 → α × Nat × Int) (s : Nat) (l : List UInt8) : List α × Nat × Int :=
  if (getL l s).2.2 = 0 then
    if (getMany get (getL l s).1 (l.drop (getL l s).2.1)).2.2 = 0 then ((getMany get (getL l s).1 (l.drop (getL l s).2.1)).1, (getL l s).2.1 + (getMany get (getL l s).1 (l.drop (getL l s).2.1)).2.1, 0)
    else ([], 0, (getMany get (getL l s).1 (l.drop (getL l s).2.1)).2.2)
  else ([], 0, (getL l s).2.2)

def encB (s : List UInt8) : List UInt8 := encI s.length ++ s
def encAll {α : Type} (enc : α → List UInt8) (xs : List α) : List UInt8 := encI xs.length ++ xs.flatMap enc

/-- What of getInt's answer decides getLength's. -/
theorem getL_cases (l : List UInt8) (s : Nat) :
    (getI l = (0, 0, 6) ∧ getL l s = (0, 0, 6)) ∨ (getI l = (0, 0, 5) ∧ getL l s = (0, 0, 5)) ∨
    (∃ n u, getI l = (n, u, 0) ∧ u ≤ l.length ∧ u ≤ 10 ∧ n ≤ 9223372036854775807 ∧ -9223372036854775808 ≤ n ∧ n < 0 ∧ getL l s = (0, 0, 6)) ∨
    (∃ n u : Nat, getI l = ((n : Int), u, 0) ∧ u ≤ l.length ∧ u ≤ 10 ∧ n ≤ 9223372036854775807 ∧ (l.length - u) / s < n ∧ getL l s = (0, 0, 5)) ∨
    (∃ n u : Nat, getI l = ((n : Int), u, 0) ∧ u ≤ l.length ∧ u ≤ 10 ∧ n ≤ (l.length - u) / s ∧ getL l s = (n, u, 0)) := by
  rcases getI_cases l with h | h | ⟨n, u, h⟩
  · exact .inl ⟨h, by unfold getL; simp [h]⟩
  · exact .inr (.inl ⟨h, by unfold getL; simp [h]⟩)
  · obtain ⟨h1, _, h2, _, h3, h4⟩ := getI_ok h
    by_cases hn : n < 0
    · exact .inr (.inr (.inl ⟨n, u, h, h1, h2, h4, h3, hn, by unfold getL; simp [h, hn]⟩))
    · obtain ⟨m, rfl⟩ := Int.eq_ofNat_of_zero_le (show 0 ≤ n by omega)
      by_cases hm : (l.length - u) / s < m
      · refine .inr (.inr (.inr (.inl ⟨m, u, h, h1, h2, by omega, hm, ?_⟩)))
        unfold getL
        simp only [h, if_true]
        rw [if_neg (by omega), if_pos (by omega)]
      · refine .inr (.inr (.inr (.inr ⟨m, u, h, h1, h2, by omega, ?_⟩)))
        unfold getL
        simp only [h, if_true]
        rw [if_neg (by omega), if_neg (by omega)]
        simp
theorem getL_ok {l : List UInt8} {s n u : Nat} (h : getL l s = (n, u, 0)) : getI l = ((n : Int), u, 0) ∧ u ≤ l.length ∧ u ≤ 10 ∧ n ≤ (l.length - u) / s := by
  rcases getL_cases l s with ⟨_, h2⟩ | ⟨_, h2⟩ | ⟨_, _, _, _, _, _, _, _, h2⟩ | ⟨_, _, _, _, _, _, _, h2⟩ | ⟨n', u', h0, h1, h3, h4, h2⟩
  · rw [h2] at h; simp at h
  · rw [h2] at h; simp at h
  · rw [h2] at h; simp at h
  · rw [h2] at h; simp at h
  · rw [h2] at h; simp at h; obtain ⟨rfl, rfl⟩ := h; exact ⟨h0, h1, h3, h4⟩

/-- A code: what an encoding and a decoding have to do with each other. -/
structure Code {α : Type} (ok : α → Prop) (zero : α) (enc : α → List UInt8) (get : List UInt8 → α × Nat × Int) : Prop where
  back : ∀ x t, ok x → get (enc x ++ t) = (x, (enc x).length, 0)
  canon : ∀ l x u, l.length ≤ 1000000000 → get l = (x, u, 0) → u ≤ l.length ∧ l.take u = enc x ∧ ok x
  short : ∀ x j, ok x → j < (enc x).length → get ((enc x).take j) = (zero, 0, 5)
  errs : ∀ l, (get l).2.2 ≠ 0 → (get l).1 = zero ∧ (get l).2.1 = 0 ∧ ((get l).2.2 = 5 ∨ (get l).2.2 = 6)

def okI (n : Int) : Prop := -9223372036854775808 ≤ n ∧ n ≤ 9223372036854775807
theorem codeI : Code okI 0 encI getI where
  back x t h := getI_encI h.1 h.2 t
  canon l x u _ h := by obtain ⟨h1, _, _, h2, h3, h4⟩ := getI_ok h; exact ⟨h1, h2, h3, h4⟩
  short x j h hj := getI_prefix (fold_lt h.1 h.2) hj
  errs l h := by
    rcases getI_cases l with e | e | ⟨n, u, e⟩ <;> rw [e] at h ⊢ <;> simp at h ⊢

theorem encI_pos (n : Int) : 1 ≤ (encI n).length := encN_pos _
theorem encI_le {n : Int} (h : okI n) : (encI n).length ≤ 10 := encN_le10 (fold_lt h.1 h.2)

theorem getL_back (n s : Nat) (t : List UInt8) (hn : n ≤ 1000000000) (hs : 1 ≤ s) (ht : n * s ≤ t.length) : getL (encI n ++ t) s = (n, (encI n).length, 0) := by
  have h := getI_encI (n := (n : Int)) (by omega) (by omega) t
  unfold getL
  simp only [h, if_true]
  have hd : n ≤ ((encI n ++ t).length - (encI n).length) / s := (Nat.le_div_iff_mul_le (by omega)).2 (by simp; exact ht)
  rw [if_neg (by omega), if_neg (by omega)]
  simp
theorem getL_short (n s j : Nat) (hn : n ≤ 1000000000) (hj : j < (encI n).length) : getL ((encI n).take j) s = (0, 0, 5) := by
  have h := getI_prefix (z := fold (n : Int)) (fold_lt (by omega) (by omega)) hj
  have h' : getI ((encI n).take j) = (0, 0, 5) := h
  unfold getL; simp [h']
theorem getL_few (n s : Nat) (t : List UInt8) (hn : n ≤ 1000000000) (ht : t.length / s < n) : getL (encI n ++ t) s = (0, 0, 5) := by
  have h := getI_encI (n := (n : Int)) (by omega) (by omega) t
  unfold getL
  simp only [h, if_true]
  rw [if_neg (by omega), if_pos (by simp; omega)]
theorem getL_errs (l : List UInt8) (s : Nat) (h : (getL l s).2.2 ≠ 0) : (getL l s).2.2 = 5 ∨ (getL l s).2.2 = 6 := by
  rcases getL_cases l s with ⟨_, h2⟩ | ⟨_, h2⟩ | ⟨_, _, _, _, _, _, _, _, h2⟩ | ⟨_, _, _, _, _, _, _, h2⟩ | ⟨n', u', h0, h1, h3, h4, h2⟩ <;> rw [h2] at h ⊢ <;> simp at h ⊢

theorem take_join {l : List UInt8} {u n : Nat} {a b : List UInt8} (h1 : l.take u = a) (h2 : (l.drop u).take n = b) : l.take (u + n) = a ++ b := by
  rw [List.take_add, h1, h2]

def okB (s : List UInt8) : Prop := s.length ≤ 1000000000
theorem prefix_cases (a b : List UInt8) (j : Nat) : (j < a.length ∧ (a ++ b).take j = a.take j) ∨ (∃ i, j = a.length + i ∧ (a ++ b).take j = a ++ b.take i) := by
  by_cases h : j < a.length
  · exact .inl ⟨h, by rw [List.take_append_of_le_length (by omega)]⟩
  · refine .inr ⟨j - a.length, by omega, ?_⟩
    rw [List.take_append, List.take_of_length_le (by omega)]
theorem getB_of {l : List UInt8} {n u : Nat} (h : getL l 1 = (n, u, 0)) : getB l = ((l.drop u).take n, u + n, 0) := by unfold getB; simp [h]
theorem getB_err {l : List UInt8} {x : Int} (h : getL l 1 = (0, 0, x)) (hx : x ≠ 0) : getB l = ([], 0, x) := by unfold getB; simp [h, hx]
/-- Strings: their decoding never succeeds at more than 10^9 bytes, if there are no more. -/
theorem getB_back (s t : List UInt8) (h : s.length ≤ 1000000000) : getB (encB s ++ t) = (s, (encB s).length, 0) := by
  unfold encB
  rw [List.append_assoc, getB_of (getL_back s.length 1 (s ++ t) h (by omega) (by simp))]
  simp
theorem getB_ok {l s : List UInt8} {u : Nat} (h : getB l = (s, u, 0)) : u ≤ l.length ∧ l.take u = encB s := by
  unfold getB at h
  by_cases h0 : (getL l 1).2.2 = 0
  · rw [if_pos h0] at h
    obtain ⟨hi, h1, _, h2⟩ := getL_ok (l := l) (s := 1) (n := (getL l 1).1) (u := (getL l 1).2.1) (by rw [← h0])
    simp only [Prod.mk.injEq, and_true] at h
    obtain ⟨rfl, rfl⟩ := h
    obtain ⟨_, _, _, h3, _⟩ := getI_ok hi
    rw [Nat.div_one] at h2
    refine ⟨by omega, ?_⟩
    unfold encB
    rw [List.length_take, List.length_drop, Nat.min_eq_left h2]
    exact take_join h3 rfl
  · rw [if_neg h0] at h
    simp only [Prod.mk.injEq] at h
    exact absurd h.2.2 h0
theorem getB_short (s : List UInt8) (j : Nat) (h : s.length ≤ 1000000000) (hj : j < (encB s).length) : getB ((encB s).take j) = ([], 0, 5) := by
  unfold encB at hj ⊢
  rcases prefix_cases (encI s.length) s j with ⟨h1, h2⟩ | ⟨i, rfl, h2⟩
  · rw [h2]; exact getB_err (getL_short _ _ _ h h1) (by decide)
  · rw [h2]
    simp at hj
    exact getB_err (getL_few _ _ _ h (by simp; omega)) (by decide)
theorem getB_errs (l : List UInt8) (h : (getB l).2.2 ≠ 0) : (getB l).1 = [] ∧ (getB l).2.1 = 0 ∧ ((getB l).2.2 = 5 ∨ (getB l).2.2 = 6) := by
  unfold getB at h ⊢
  by_cases h0 : (getL l 1).2.2 = 0
  · rw [if_pos h0] at h; simp at h
  · rw [if_neg h0]; exact ⟨rfl, rfl, getL_errs l 1 h0⟩
theorem codeB : Code okB [] encB getB where
  back x t h := getB_back x t h
  canon l x u hl h := by
    obtain ⟨h1, h2⟩ := getB_ok h
    refine ⟨h1, h2, ?_⟩
    have : (l.take u).length = (encB x).length := by rw [h2]
    unfold encB at this
    simp at this
    show x.length ≤ _
    omega
  short x j h hj := getB_short x j h hj
  errs l h := getB_errs l h
theorem encB_pos (s : List UInt8) : 1 ≤ (encB s).length := by
  have := encI_pos (s.length : Int)
  unfold encB; simp; omega

/-- Digests: 16 bytes. -/
def okD (d : List UInt8) : Prop := d.length = 16
def zeroD : List UInt8 := List.replicate 16 0
def getD (l : List UInt8) : List UInt8 × Nat × Int := if l.length < 16 then (zeroD, 0, 5) else (l.take 16, 16, 0)
theorem codeD : Code okD zeroD (fun d => d) getD where
  back x t h := by
    unfold okD at h
    unfold getD
    rw [if_neg (by simp; omega), ← h, List.take_left]
  canon l x u _ h := by
    unfold getD at h
    by_cases h1 : l.length < 16
    · simp [h1] at h
    · simp [h1] at h
      obtain ⟨rfl, rfl⟩ := h
      exact ⟨by omega, rfl, by unfold okD; simp; omega⟩
  short x j h hj := by
    unfold getD
    rw [if_pos (by simp; unfold okD at h; omega)]
  errs l h := by
    unfold getD at h ⊢
    by_cases h1 : l.length < 16
    · simp [h1]
    · simp [h1] at h

section
variable {α : Type} {ok : α → Prop} {zero : α} {enc : α → List UInt8} {get : List UInt8 → α × Nat × Int}

theorem many_cons {n : Nat} {l : List UInt8} {x : α} {u : Nat} {xs : List α} {v : Nat} (h1 : get l = (x, u, 0)) (h2 : getMany get n (l.drop u) = (xs, v, 0)) : getMany get (n + 1) l = (x :: xs, u + v, 0) := by
  simp [getMany, h1, h2]
theorem many_err1 {n : Nat} {l : List UInt8} {x : α} {u : Nat} {e : Int} (h1 : get l = (x, u, e)) (he : e ≠ 0) : getMany get (n + 1) l = ([], 0, e) := by
  simp [getMany, h1, he]
theorem many_err2 {n : Nat} {l : List UInt8} {x : α} {u : Nat} {xs : List α} {v : Nat} {e : Int} (h1 : get l = (x, u, 0)) (h2 : getMany get n (l.drop u) = (xs, v, e)) (he : e ≠ 0) : getMany get (n + 1) l = ([], 0, e) := by
  simp [getMany, h1, h2, he]

theorem many_back (C : Code ok zero enc get) : ∀ (xs : List α) (t : List UInt8), (∀ x ∈ xs, ok x) → getMany get xs.length (xs.flatMap enc ++ t) = (xs, (xs.flatMap enc).length, 0)
  | [], t, _ => by simp [getMany]
  | x :: xs, t, h => by
    have h1 := C.back x (xs.flatMap enc ++ t) (h x (by simp))
    have h2 := many_back C xs t (fun y hy => h y (by simp [hy]))
    simp only [List.length_cons, List.flatMap_cons, List.append_assoc]
    rw [many_cons h1 (by rw [List.drop_left]; exact h2)]
    simp
theorem many_ok (C : Code ok zero enc get) : ∀ (n : Nat) (l : List UInt8) (xs : List α) (u : Nat), l.length ≤ 1000000000 → getMany get n l = (xs, u, 0) → xs.length = n ∧ u ≤ l.length ∧ l.take u = xs.flatMap enc ∧ ∀ x ∈ xs, ok x
  | 0, l, xs, u, _, h => by
    simp only [getMany, Prod.mk.injEq, and_true] at h
    obtain ⟨rfl, rfl⟩ := h
    simp
  | n + 1, l, xs, u, hl, h => by
    simp only [getMany] at h
    by_cases h1 : (get l).2.2 = 0
    · rw [if_pos h1] at h
      by_cases h2 : (getMany get n (l.drop (get l).2.1)).2.2 = 0
      · rw [if_pos h2] at h
        simp only [Prod.mk.injEq, and_true] at h
        obtain ⟨rfl, rfl⟩ := h
        obtain ⟨a1, a2, a3⟩ := C.canon l (get l).1 (get l).2.1 hl (by rw [← h1])
        obtain ⟨b0, b1, b2, b3⟩ := many_ok C n (l.drop (get l).2.1) (getMany get n (l.drop (get l).2.1)).1 (getMany get n (l.drop (get l).2.1)).2.1 (by simp; omega) (by rw [← h2])
        refine ⟨by simp [b0], by rw [List.length_drop] at b1; omega, ?_, ?_⟩
        · rw [List.flatMap_cons]; exact take_join a2 b2
        · intro y hy
          rcases List.mem_cons.1 hy with rfl | hy
          · exact a3
          · exact b3 y hy
      · rw [if_neg h2] at h
        simp only [Prod.mk.injEq] at h
        exact absurd h.2.2 h2
    · rw [if_neg h1] at h
      simp only [Prod.mk.injEq] at h
      exact absurd h.2.2 h1
theorem many_short (C : Code ok zero enc get) : ∀ (xs : List α) (j : Nat), (∀ x ∈ xs, ok x) → j < (xs.flatMap enc).length → getMany get xs.length ((xs.flatMap enc).take j) = ([], 0, 5)
  | [], j, _, hj => by simp at hj
  | x :: xs, j, h, hj => by
    have hx := h x (by simp)
    simp only [List.length_cons, List.flatMap_cons] at hj ⊢
    rcases prefix_cases (enc x) (xs.flatMap enc) j with ⟨h1, h2⟩ | ⟨i, rfl, h2⟩
    · rw [h2]; exact many_err1 (C.short x j hx h1) (by decide)
    · rw [h2]
      have h3 := C.back x ((xs.flatMap enc).take i) hx
      refine many_err2 (xs := []) (v := 0) h3 ?_ (by decide)
      rw [List.drop_left]
      exact many_short C xs i (fun y hy => h y (by simp [hy])) (by rw [List.length_append] at hj; omega)
theorem many_errs (C : Code ok zero enc get) : ∀ (n : Nat) (l : List UInt8), (getMany get n l).2.2 ≠ 0 → (getMany get n l).1 = [] ∧ (getMany get n l).2.1 = 0 ∧ ((getMany get n l).2.2 = 5 ∨ (getMany get n l).2.2 = 6)
  | 0, l, h => by simp [getMany] at h
  | n + 1, l, h => by
    simp only [getMany] at h ⊢
    by_cases h1 : (get l).2.2 = 0
    · rw [if_pos h1] at h ⊢
      by_cases h2 : (getMany get n (l.drop (get l).2.1)).2.2 = 0
      · rw [if_pos h2] at h; simp at h
      · rw [if_neg h2] at h ⊢
        exact ⟨rfl, rfl, (many_errs C n _ h2).2.2⟩
    · rw [if_neg h1] at h ⊢
      exact ⟨rfl, rfl, (C.errs l h1).2.2⟩

theorem flat_len (s : Nat) (h : ∀ x, ok x → s ≤ (enc x).length) : ∀ (xs : List α), (∀ x ∈ xs, ok x) → xs.length * s ≤ (xs.flatMap enc).length
  | [], _ => by simp
  | x :: xs, hx => by
    have h1 := h x (hx x (by simp))
    have h2 := flat_len s h xs (fun y hy => hx y (by simp [hy]))
    simp only [List.length_cons, List.flatMap_cons, List.length_append, Nat.succ_mul]
    omega

def okAll (ok : α → Prop) (xs : List α) : Prop := (∀ x ∈ xs, ok x) ∧ xs.length ≤ 1000000000

theorem all_of {s : Nat} {l : List UInt8} {n u : Nat} {xs : List α} {v : Nat} (h1 : getL l s = (n, u, 0)) (h2 : getMany get n (l.drop u) = (xs, v, 0)) : getAll get s l = (xs, u + v, 0) := by
  simp [getAll, h1, h2]
theorem all_err1 {s : Nat} {l : List UInt8} {x : Int} (h1 : getL l s = (0, 0, x)) (hx : x ≠ 0) : getAll get s l = ([], 0, x) := by
  simp [getAll, h1, hx]
theorem all_err2 {s : Nat} {l : List UInt8} {n u : Nat} {xs : List α} {v : Nat} {x : Int} (h1 : getL l s = (n, u, 0)) (h2 : getMany get n (l.drop u) = (xs, v, x)) (hx : x ≠ 0) : getAll get s l = ([], 0, x) := by
  simp [getAll, h1, h2, hx]

theorem codeAll (C : Code ok zero enc get) (s : Nat) (hs : 1 ≤ s) (hsz : ∀ x, ok x → s ≤ (enc x).length) : Code (okAll ok) [] (encAll enc) (getAll get s) where
  back xs t h := by
    unfold encAll
    rw [List.append_assoc]
    have h1 := getL_back xs.length s (xs.flatMap enc ++ t) h.2 hs (by have := flat_len s hsz xs h.1; rw [List.length_append]; omega)
    rw [all_of h1 (by rw [List.drop_left]; exact many_back C xs t h.1)]
    simp
  canon l xs u hl h := by
    unfold getAll at h
    by_cases h0 : (getL l s).2.2 = 0
    · rw [if_pos h0] at h
      obtain ⟨hi, h1, _, h2⟩ := getL_ok (l := l) (s := s) (n := (getL l s).1) (u := (getL l s).2.1) (by rw [← h0])
      obtain ⟨_, _, _, h3, _⟩ := getI_ok hi
      by_cases h5 : (getMany get (getL l s).1 (l.drop (getL l s).2.1)).2.2 = 0
      · rw [if_pos h5] at h
        obtain ⟨b0, b1, b2, b3⟩ := many_ok C (getL l s).1 (l.drop (getL l s).2.1) (getMany get (getL l s).1 (l.drop (getL l s).2.1)).1 (getMany get (getL l s).1 (l.drop (getL l s).2.1)).2.1 (by simp; omega) (by rw [← h5])
        simp only [Prod.mk.injEq, and_true] at h
        obtain ⟨rfl, rfl⟩ := h
        have hd : (l.length - (getL l s).2.1) / s ≤ l.length - (getL l s).2.1 := Nat.div_le_self _ _
        refine ⟨by rw [List.length_drop] at b1; omega, ?_, b3, by omega⟩
        unfold encAll
        rw [b0]
        exact take_join h3 b2
      · rw [if_neg h5] at h
        simp only [Prod.mk.injEq] at h
        exact absurd h.2.2 h5
    · rw [if_neg h0] at h
      simp only [Prod.mk.injEq] at h
      exact absurd h.2.2 h0
  short xs j h hj := by
    unfold encAll at hj ⊢
    rcases prefix_cases (encI xs.length) (xs.flatMap enc) j with ⟨h1, h2⟩ | ⟨i, rfl, h2⟩
    · rw [h2]; exact all_err1 (getL_short _ _ _ h.2 h1) (by decide)
    · rw [h2]
      by_cases hf : ((xs.flatMap enc).take i).length / s < xs.length
      · exact all_err1 (getL_few _ _ _ h.2 hf) (by decide)
      · have h1 := getL_back xs.length s ((xs.flatMap enc).take i) h.2 hs ((Nat.le_div_iff_mul_le (by omega)).1 (by omega))
        refine all_err2 h1 (by rw [List.drop_left]; exact many_short C xs i h.1 (by rw [List.length_append] at hj; omega)) (by decide)
  errs l h := by
    unfold getAll at h ⊢
    by_cases h0 : (getL l s).2.2 = 0
    · rw [if_pos h0] at h ⊢
      by_cases h5 : (getMany get (getL l s).1 (l.drop (getL l s).2.1)).2.2 = 0
      · rw [if_pos h5] at h; simp at h
      · rw [if_neg h5] at h ⊢
        exact ⟨rfl, rfl, (many_errs C _ _ h5).2.2⟩
    · rw [if_neg h0] at h ⊢
      exact ⟨rfl, rfl, getL_errs l s h0⟩
end
theorem codeInts : Code (okAll okI) [] (encAll encI) (getAll getI 1) := codeAll codeI 1 (by decide) (fun x _ => encI_pos x)
theorem codeStrings : Code (okAll okB) [] (encAll encB) (getAll getB 1) := codeAll codeB 1 (by decide) (fun x _ => encB_pos x)
theorem codeDigests : Code (okAll okD) [] (encAll (fun d => d)) (getAll getD 16) := codeAll codeD 16 (by decide) (fun x h => by unfold okD at h; omega)
end WM
end Go.Proofs.YtkakiepaffhhjaaDoor
