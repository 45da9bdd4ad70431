/-
  Contracts of the walks over chapter 2's Stream.Add. Conditions: a message of at most 10^9 bytes; the tables read as the document has them.
-/
import Derived.Test.YtnhnfdfjlagcjaaDoorHst
namespace Go.Proofs.YtnhnfdfjlagcjaaDoor
open Go.RowKit

/-- The stream whose message is m. -/
def SVc (m : List UInt8) : List Value := strmC (SM.val m) (SM.rest m ++ SM.zeros (64 - m.length % 64)) m.length
theorem pad_length (m : List UInt8) : (SM.rest m ++ SM.zeros (64 - m.length % 64)).length = 64 := by rw [List.length_append, SM.rest_length, SM.zeros_length]; omega
theorem SVc_nil : SVc [] = strmC SM.start (SM.zeros 64) 0 := rfl
theorem SVc_length (m : List UInt8) : (SVc m).length = 73 := strm_length _ _ _ (pad_length m)
theorem byteCells_B8 (l : List UInt8) : Lib.byteCells l = l.map B8 := rfl

theorem splice_mid {α : Type} (A M T cs : List α) (k : Nat) (h : k + cs.length ≤ M.length) : splice (A ++ (M ++ T)) (A.length + k) cs = A ++ (splice M k cs ++ T) := by
  unfold splice
  rw [List.take_append, List.take_of_length_le (by omega : A.length ≤ A.length + k), show A.length + k - A.length = k by omega, List.take_append_of_le_length (by omega),
    List.drop_append, List.drop_eq_nil_of_le (by omega : A.length ≤ A.length + k + cs.length), List.nil_append, show A.length + k + cs.length - A.length = k + cs.length by omega, List.drop_append_of_le_length (by omega)]
  simp [List.append_assoc]
theorem strm_mid (v : SM.V) (r : List UInt8) (n k : Nat) (p : List UInt8) (h : k + p.length ≤ r.length) : splice (strmC v r n) (8 + k) (p.map B8) = strmC v (splice r k p) n := by
  have e : (splice r k p).map B8 = splice (r.map B8) k (p.map B8) := by unfold splice; simp [List.map_take, List.map_drop]
  have := splice_mid (v.list.map W32) (r.map B8) [.int .u64 (n : Int)] (p.map B8) k (by rw [List.length_map, List.length_map]; exact h)
  unfold strmC
  rw [e]
  exact this
theorem splice_tail (a z p : List UInt8) (n : Nat) (hz : z = SM.zeros n) (_h : p.length ≤ n) : splice (a ++ z) a.length p = a ++ p ++ SM.zeros (n - p.length) := by
  subst hz
  unfold splice SM.zeros
  rw [List.take_left' rfl, List.drop_append, List.drop_eq_nil_of_le (by omega), List.nil_append, List.drop_replicate, show a.length + p.length - a.length = p.length by omega, List.append_assoc]

/-- More bytes that do not fill the block. -/
theorem SVc_short (m p : List UInt8) (h : m.length % 64 + p.length < 64) : strmC (SM.val m) (splice (SM.rest m ++ SM.zeros (64 - m.length % 64)) (m.length % 64) p) (m.length + p.length) = SVc (m ++ p) := by
  unfold SVc
  have e := splice_tail (SM.rest m) (SM.zeros (64 - m.length % 64)) p (64 - m.length % 64) rfl (by omega)
  rw [SM.rest_length] at e
  rw [e, SM.val_short m p h, SM.rest_short m p h, List.length_append, show 64 - m.length % 64 - p.length = 64 - (m.length + p.length) % 64 by omega]
/-- More bytes that fill it. -/
theorem SVc_fill (m p : List UInt8) (h : m.length % 64 + p.length = 64) : splice (SM.rest m ++ SM.zeros (64 - m.length % 64)) (m.length % 64) p = SM.rest m ++ p := by
  have e := splice_tail (SM.rest m) (SM.zeros (64 - m.length % 64)) p (64 - m.length % 64) rfl (by omega)
  rw [SM.rest_length] at e
  rw [e, show 64 - m.length % 64 - p.length = 0 by omega]
  simp [SM.zeros]
theorem SVc_full (m p : List UInt8) (h : m.length % 64 + p.length = 64) : strmC (SM.compress (SM.val m) (SM.rest m ++ p)) (SM.zeros 64) (m.length + p.length) = SVc (m ++ p) := by
  unfold SVc
  rw [SM.val_full m p h, SM.rest_full m p h, List.length_append, show (m.length + p.length) % 64 = 0 by omega]
  rfl

theorem drop_extract (s : ByteArray) (k : Nat) : (s.extract k s.size).data.toList = s.data.toList.drop k := by
  simp [ByteArray.data_extract]
  rw [List.take_of_length_le]
  rw [List.length_drop, Array.length_toList]
  exact Nat.le_refl _
theorem wpList_copyP {P : Program} {ops : Array Oper} {rest : List Oper} {o : Oper} {a : Act} {w : World} {Q : Exit → Act → World → Prop} (hgd : o.guard = none) (d s : Operand) (dT sT : TypeId)
    (ho : o.op = .call { callee := .builtin .copy, args := #[d, s], argTypes := #[dT, sT] }) (elem : TypeId) (hu : P.underlying dT = some (.slice elem)) (hsz : (P.info? elem).map (·.size) = some 1)
    (g k dLen dCap : Nat) (hd : a.eval d = .slice (some ⟨g, k, none⟩) dLen dCap) (b : ByteArray) (hs : a.eval s = .string b) {t : TypeId} {l : List Value} (hb : Blk w g t l) (hl : k + dLen ≤ l.length)
    (p : List UInt8) (hp : Hid (b.data.toList.take dLen = p))
    (h : ∀ w', Upd g w w' → Blk w' g t (splice l k (p.map B8)) → wpList P ops Q rest (a.put o.dst (.int .i64 (p.length : Int))) w') : wpList P ops Q (o :: rest) a w := by
  refine wpList_copyStr hgd d s dT sT ho elem hu hsz g k dLen dCap hd b hs hb hl fun w' hu' hb' => ?_
  rw [hp.out] at hb'
  have e : Nat.min b.size dLen = p.length := by rw [← hp.out, List.length_take, Array.length_toList, Nat.min_comm]; rfl
  rw [e]
  exact h w' hu' hb'

theorem used_raw (m : List UInt8) (w : World) (hm : m.length ≤ 1000000000) (u : Nat) (hu : Hid (m.length % 64 = u)) :
    Calls Tryd.prog 50 #[.agg (SVc m).toArray] w fun e w' => e = .returned (.int .i64 (u : Int)) ∧ Below w.heap.size w w' := by
  rw [← hu.out]
  exact used_any _ _ _ w (pad_length m) hm

theorem Tryd.size32 : (Tryd.prog.info? 32).map (·.size) = some 1 := by kernel_rfl
theorem used_n (v : SM.V) (q : List UInt8) (N : Nat) (w : World) (hq : Hid (q.length = 64)) (hN : N ≤ 1000000000) (u : Nat) (hu : Hid (N % 64 = u)) :
    Calls Tryd.prog 50 #[.agg (strmC v q N).toArray] w fun e w' => e = .returned (.int .i64 (u : Int)) ∧ Below w.heap.size w w' := by
  rw [← hu.out]
  exact used_any _ _ _ w hq.out hN

/-- Add's loop: m of the message has been taken in, s is left. -/
def AddTo (m0 text : List UInt8) (B gs gr : Nat) (w : World) (t : Value) (wr : World) : Prop :=
  ∃ (m : List UInt8) (s : ByteArray), t = .string s ∧ Hid (m ++ s.data.toList = m0 ++ text) ∧ Blk wr gs 34 (SVc m) ∧ Blk wr gr 34 zeroS ∧ Below B w wr
def sizeOfStr : Value → Nat
  | .string s => s.size
  | _ => 0

set_option maxRecDepth 100000 in
set_option maxHeartbeats 1600000 in
theorem add_any (m : List UInt8) (s : ByteArray) (w : World) (hl : m.length + s.size ≤ 1000000000) (HY : Lay w) :
    Calls Tryd.prog 20 #[.agg (SVc m).toArray, .string s] w fun e w' => e = .returned (.agg (SVc (m ++ s.data.toList)).toArray) ∧ Below w.heap.size w w' := by
  have HL := Lib.hid hl
  clear hl
  go_enter Tryd.func20, Tryd.ntmps20
  go_wp2_with (with_reducible refine wpList_box (o := ⟨some 2, .box 34 (.tmp 0), _, _, _, _⟩) ?g1 34 (.tmp 0) ?o1 (.agg (SVc m).toArray) (SVc m) ?x1 ?c1 ?_)
  try (case g1 => rfl)
  try (case o1 => rfl)
  try (case x1 => rfl)
  try (case c1 => rfl)
  intro gs w1 hgs hs1 hb1 hB1
  go_wp2_with (with_reducible refine wpList_alloc (o := ⟨some 4, .alloc 34, _, _, _, _⟩) ?g2 34 ?o2 (strmV ⟨0, 0, 0, 0, 0, 0, 0, 0⟩ (SM.zeros 64) 0) zeroS ?z2 ?c2 ?_)
  try (case g2 => rfl)
  try (case o2 => rfl)
  try (case z2 => exact Tryd.zero34)
  try (case c2 => rfl)
  intro gr w2 hgr hs2 hb2 hB2
  have hlt0 : w.heap.size ≤ gs := Nat.le_of_eq hgs.out.symm
  have hlt1 : gs < gr := by have := hs1.out; have := hgr.out; omega
  have hsz2 : gr < w2.heap.size := by have := hs2.out; omega
  have hb : Below w.heap.size w w2 := (hb1.mono hlt0).trans (hb2.mono (by omega))
  have hB1' := hB1.next hb2 hlt1
  clear hgs hgr hs1 hs2 hb1 hb2 hB1
  go_wp2
  go_loopw [1] (AddTo m s.data.toList w.heap.size gs gr w) (fun t _ => sizeOfStr t)
  case atStart => exact ⟨m, s, rfl, rfl, hB1', hB2, hb⟩
  case round =>
    clear hB1' hB2 hb hsz2
    obtain ⟨m', t, rfl, hmt, hBs, hBr, hbel⟩ := hrel
    have HYr := HY.next hbel
    obtain ⟨d34, HD34, hd34⟩ := Tryd.under34
    have hml : Hid (m'.length + t.size = m.length + s.size) := by
      have := congrArg List.length hmt.out
      rw [List.length_append, List.length_append, Array.length_toList, Array.length_toList] at this
      exact Lib.hid this
    have hmb : m'.length ≤ 1000000000 := by have := hml.out; have := HL.out; omega
    have htb : t.size ≤ 1000000000 := by have := hml.out; have := HL.out; omega
    by_cases ht : 0 < t.size
    · obtain ⟨p, hp⟩ : ∃ p, Hid (t.data.toList.take (64 - m'.length % 64) = p) := ⟨_, rfl⟩
      have hpl : Hid (p.length = min (64 - m'.length % 64) t.size) := by
        have : p.length = min (64 - m'.length % 64) t.size := by rw [← hp.out, List.length_take, Array.length_toList]; rfl
        exact Lib.hid this
      have hp1 : p.length ≤ t.size := by have := hpl.out; omega
      have hp2 : m'.length % 64 + p.length ≤ 64 := by have := hpl.out; omega
      have hp3 : 0 < p.length := by have := hpl.out; omega
      obtain ⟨u, hu⟩ : ∃ u, Hid (m'.length % 64 = u) := ⟨_, rfl⟩
      have hu64 : u < 64 := by have := hu.out; omega
      rw [hu.out] at hp2
      have hp' : Hid (t.data.toList.take (64 - u) = p) := by rw [← hu.out]; exact hp
      go_wp2_with (with_reducible refine wpList_get (o := ⟨some 10, .load 34 (.tmp 2), _, _, _, _⟩) ?g3 34 (.tmp 2) ?o3 gs 0 ?x3 hBs (SVc m') ?c3 d34 ?u3 ?d3 ?i3 ?_)
      try (case x3 => rfl)
      try (case g3 => rfl)
      try (case o3 => rfl)
      try (case c3 => (exact cs_all _))
      try (case u3 => exact HD34.out)
      try (case d3 => first | rfl | assumption)
      try (case i3 => (rw [SVc_length]; exact Tryd.size34))
      go_wp2_with fail
      (with_reducible refine (used_raw m' _ hmb u hu).mono ?_)
      rintro e w4 ⟨rfl, hb4⟩
      have hBs4 := hBs.next hb4 hBs.lt
      have hBr4 := hBr.next hb4 hBr.lt
      have hbel4 := hbel.trans (hb4.mono hbel.size)
      clear hBs hBr hbel hb4 HYr
      go_wp2_with (first | (with_reducible refine wpList_cutL (o := ⟨some 12, .slice 31 (.tmp 9) (some (.tmp 11)) none none, _, _, _, _⟩) ?g4 31 (.tmp 9) (.tmp 11) ?o4 gs 8 ?x4 u ?y4 64 5 ?u4 ?i4 ?k4 ?_) | (with_reducible refine wpList_copyP (o := ⟨some 14, .call ⟨.builtin .copy, #[.tmp 12, .tmp 13], #[22, 9]⟩, _, _, _, _⟩) ?g5 (.tmp 12) (.tmp 13) 22 9 ?o5 5 ?u5 ?i5 gs (8 + u) (64 - u) (64 - u) ?x5 t ?y5 hBs4 ?l5 p hp' ?_))
      try (case x4 => rfl)
      try (case g4 => rfl)
      try (case o4 => rfl)
      try (case y4 => rfl)
      try (case u4 => exact Tryd.underlying31)
      try (case i4 => exact Tryd.size5)
      try (case k4 => exact hu64)
      case g5 => rfl
      case o5 => rfl
      try (case x5 => rfl)
      try (case y5 => rfl)
      case u5 => exact Tryd.underlying22
      case i5 => exact Tryd.size5
      case l5 => rw [SVc_length]; omega
      intro w5 hu5 hB5
      have hBr5 := hBr4.upd hu5 (by omega)
      have hbel5 := hbel4.trans (hu5.below (B := w.heap.size) (by omega))
      have hql : Hid ((splice (SM.rest m' ++ SM.zeros (64 - m'.length % 64)) u p).length = 64) := by
        have : (splice (SM.rest m' ++ SM.zeros (64 - m'.length % 64)) u p).length = 64 := by rw [splice_len, pad_length]; omega
        exact Lib.hid this
      unfold SVc at hB5
      rw [strm_mid _ _ _ _ _ (by rw [pad_length]; exact hp2)] at hB5
      obtain ⟨q, hq⟩ : ∃ q, Hid (splice (SM.rest m' ++ SM.zeros (64 - m'.length % 64)) u p = q) := ⟨_, rfl⟩
      rw [hq.out] at hB5 hql
      have hc72 := hB5.cell (strm_len _ q _ hql.out)
      clear hBs4 hBr4 hbel4 hu5 hp'
      obtain ⟨N, hN⟩ : ∃ N, Hid (m'.length + p.length = N) := ⟨_, rfl⟩
      have hNb : N ≤ 1000000000 := by have := hN.out; have := hml.out; have := HL.out; omega
      go_wp2_with (with_reducible refine wpList_put (o := ⟨none, .store 32 (.tmp 23) (.tmp 22), _, _, _, _⟩) ?g6 32 (.tmp 23) (.tmp 22) ?o6 gs 72 ?x6 (.int .u64 (N : Int)) ?y6 hB5 [.int .u64 (N : Int)] ?v6 ?i6 ?l6 ?q6 ?_)
      try (case y6 => (rw [← hN.out]; rfl))
      try (case x6 => rfl)
      try (case g6 => rfl)
      try (case o6 => rfl)
      try (case v6 => rfl)
      try (case i6 => exact Tryd.size32)
      try (case l6 => (rw [strm_length _ _ _ hql.out]; exact of_decide_eq_true rfl))
      try (case q6 => exact one_cell1 rfl)
      intro w6 hu6 hB6
      rw [strm_setN _ _ _ _ hql.out] at hB6
      have hBr6 := hBr5.upd hu6 (by omega)
      have hbel6 := hbel5.trans (hu6.below (B := w.heap.size) (by omega))
      clear hB5 hBr5 hbel5 hu6 hc72
      obtain ⟨u2, hu2⟩ : ∃ u2, Hid (N % 64 = u2) := ⟨_, rfl⟩
      have hrest : Hid ((t.extract p.length t.size).data.toList = t.data.toList.drop p.length) := drop_extract t p.length
      have hsz : Hid ((t.extract p.length t.size).size = t.size - p.length) := by
        have := congrArg List.length hrest.out
        rw [Array.length_toList, List.length_drop, Array.length_toList] at this
        exact this
      have hmt2 : Hid ((m' ++ p) ++ (t.extract p.length t.size).data.toList = m ++ s.data.toList) := by
        have e : p ++ t.data.toList.drop p.length = t.data.toList := by
          have h1 := hp.out
          have h2 : p.length = min (64 - m'.length % 64) t.size := hpl.out
          have h3 : t.data.toList.take p.length = p := by
            rw [h2, ← h1]
            by_cases hc : 64 - m'.length % 64 ≤ t.size
            · rw [Nat.min_eq_left hc]
            · rw [Nat.min_eq_right (by omega), List.take_of_length_le (by rw [Array.length_toList]; exact Nat.le_refl _), List.take_of_length_le (by rw [Array.length_toList]; show t.size ≤ _; omega)]
          conv => lhs; lhs; rw [← h3]
          exact List.take_append_drop _ _
        have : (m' ++ p) ++ (t.extract p.length t.size).data.toList = m ++ s.data.toList := by rw [hrest.out, List.append_assoc, e, hmt.out]
        exact this
      generalize t.extract p.length t.size = t2 at hrest hsz hmt2 ⊢
      by_cases hfull : u + p.length = 64
      · have hu20 : u2 = 0 := by have := hu2.out; have := hN.out; have := hu.out; omega
        have hq2 : Hid (q = SM.rest m' ++ p) := by
          have := SVc_fill m' p (by rw [hu.out]; exact hfull)
          rw [hu.out] at this
          rw [hu.out, this] at hq
          exact hq.out.symm
        have hS : Hid (strmC (SM.compress (SM.val m') q) (SM.zeros 64) N = SVc (m' ++ p)) := by
          have := SVc_full m' p (by rw [hu.out]; exact hfull)
          rw [← hN.out, hq2.out]; exact this
        rw [hu20] at hu2
        clear hu20
        go_wp2_with (with_reducible refine wpList_get (o := ⟨some 24, .load 34 (.tmp 2), _, _, _, _⟩) ?g7 34 (.tmp 2) ?o7 gs 0 ?x7 hB6 (strmC (SM.val m') q N) ?c7 d34 ?u7 ?d7 ?i7 ?_)
        try (case x7 => rfl)
        try (case g7 => rfl)
        try (case o7 => rfl)
        try (case c7 => (exact cs_all _))
        try (case u7 => exact HD34.out)
        try (case d7 => first | rfl | assumption)
        try (case i7 => (rw [strm_length _ _ _ hql.out]; exact Tryd.size34))
        go_wp2_with fail
        (with_reducible refine (used_n (SM.val m') q N _ hql hNb 0 hu2).mono ?_)
        rintro e w7 ⟨rfl, hb7⟩
        have hBs7 := hB6.next hb7 hB6.lt
        have hBr7 := hBr6.next hb7 hBr6.lt
        have hbel7 := hbel6.trans (hb7.mono hbel6.size)
        clear hB6 hBr6 hbel6 hb7
        have HY7 := HY.next hbel7
        go_wp2_with (with_reducible refine wpList_get (o := ⟨some 27, .load 34 (.tmp 2), _, _, _, _⟩) ?g8 34 (.tmp 2) ?o8 gs 0 ?x8 hBs7 (strmC (SM.val m') q N) ?c8 d34 ?u8 ?d8 ?i8 ?_)
        try (case x8 => rfl)
        try (case g8 => rfl)
        try (case o8 => rfl)
        try (case c8 => (exact cs_all _))
        try (case u8 => exact HD34.out)
        try (case d8 => first | rfl | assumption)
        try (case i8 => (rw [strm_length _ _ _ hql.out]; exact Tryd.size34))
        go_wp2_with fail
        (with_reducible refine (compressed_any (SM.val m') q N _ hql.out HY7).mono ?_)
        rintro e w8 ⟨rfl, hb8⟩
        have hBs8 := hBs7.next hb8 hBs7.lt
        have hBr8 := hBr7.next hb8 hBr7.lt
        have hbel8 := hbel7.trans (hb8.mono hbel7.size)
        clear hBs7 hBr7 hbel7 hb8 HY7
        rw [hS.out]
        go_wp2_with (with_reducible refine wpList_put (o := ⟨none, .store 34 (.tmp 2) (.tmp 28), _, _, _, _⟩) ?g9 34 (.tmp 2) (.tmp 28) ?o9 gs 0 ?x9 (.agg (SVc (m' ++ p)).toArray) ?y9 hBs8 (SVc (m' ++ p)) ?v9 ?i9 ?l9 ?q9 ?_)
        try (case y9 => rfl)
        try (case x9 => rfl)
        try (case g9 => rfl)
        try (case o9 => rfl)
        try (case v9 => rfl)
        try (case i9 => exact (by rw [SVc_length]; exact Tryd.size34))
        try (case l9 => (rw [SVc_length, strm_length _ _ _ hql.out]; exact Nat.le_refl _))
        try (case q9 => exact strm_one _ _ _)
        intro w9 hu9 hB9
        rw [splice_all _ _ (by rw [SVc_length, strm_length _ _ _ hql.out])] at hB9
        have hBr9 := hBr8.upd hu9 (by omega)
        have hbel9 := hbel8.trans (hu9.below (B := w.heap.size) (by omega))
        clear hBs8 hBr8 hbel8 hu9
        go_wp2
        go_roundw
        case rel => exact ⟨m' ++ p, t2, rfl, hmt2, hB9, hBr9, hbel9⟩
        case measure => show t2.size < t.size; rw [hsz.out]; omega
      · have hne : ((u2 : Int) == 0) = false := by
          have : u2 ≠ 0 := by have := hu2.out; have := hN.out; have := hu.out; omega
          exact beq_eq_false_iff_ne.2 (by omega)
        have hS : Hid (strmC (SM.val m') q N = SVc (m' ++ p)) := by
          have := SVc_short m' p (by rw [hu.out]; omega)
          rw [hu.out] at this
          rw [hu.out] at hq
          rw [← hN.out, ← hq.out]; exact this
        go_wp2_with (with_reducible refine wpList_get (o := ⟨some 24, .load 34 (.tmp 2), _, _, _, _⟩) ?g10 34 (.tmp 2) ?o10 gs 0 ?x10 hB6 (strmC (SM.val m') q N) ?c10 d34 ?u10 ?d10 ?i10 ?_)
        try (case x10 => rfl)
        try (case g10 => rfl)
        try (case o10 => rfl)
        try (case c10 => (exact cs_all _))
        try (case u10 => exact HD34.out)
        try (case d10 => first | rfl | assumption)
        try (case i10 => (rw [strm_length _ _ _ hql.out]; exact Tryd.size34))
        go_wp2_with fail
        (with_reducible refine (used_n (SM.val m') q N _ hql hNb u2 hu2).mono ?_)
        rintro e w7 ⟨rfl, hb7⟩
        have hBs7 := hB6.next hb7 hB6.lt
        have hBr7 := hBr6.next hb7 hBr6.lt
        have hbel7 := hbel6.trans (hb7.mono hbel6.size)
        rw [hS.out] at hBs7
        clear hB6 hBr6 hbel6 hb7
        go_wp2
        go_roundw
        case rel => exact ⟨m' ++ p, t2, rfl, hmt2, hBs7, hBr7, hbel7⟩
        case measure => show t2.size < t.size; rw [hsz.out]; omega
    · have ht0 : t.size = 0 := by omega
      have HM : Hid (m' = m ++ s.data.toList) := by
        have h0 : t.data.toList = [] := List.eq_nil_of_length_eq_zero (by rw [Array.length_toList]; exact ht0)
        have := hmt.out
        rw [h0, List.append_nil] at this
        exact this
      clear ht0
      go_wp2_with (first | (with_reducible refine wpList_get (o := ⟨some 29, .load 34 (.tmp 2), _, _, _, _⟩) ?g11 34 (.tmp 2) ?o11 gs 0 ?x11 hBs (SVc m') ?c11 d34 ?u11 ?d11 ?i11 ?_) | (with_reducible refine wpList_put (o := ⟨none, .store 34 (.tmp 4) (.tmp 29), _, _, _, _⟩) ?g12 34 (.tmp 4) (.tmp 29) ?o12 gr 0 ?x12 (.agg (SVc m').toArray) ?y12 hBr (SVc m') ?v12 ?i12 ?l12 ?q12 ?_))
      try (case x11 => rfl)
      try (case g11 => rfl)
      try (case o11 => rfl)
      try (case c11 => (exact cs_all _))
      try (case u11 => exact HD34.out)
      try (case d11 => first | rfl | assumption)
      try (case i11 => (rw [SVc_length]; exact Tryd.size34))
      try (case y12 => rfl)
      try (case x12 => rfl)
      try (case g12 => rfl)
      try (case o12 => rfl)
      try (case v12 => rfl)
      try (case i12 => exact (by rw [SVc_length]; exact Tryd.size34))
      try (case l12 => (rw [SVc_length]; exact Nat.le_refl _))
      try (case q12 => exact strm_one _ _ _)
      intro w7 hu7 hB7
      rw [splice_all _ _ (by rw [SVc_length]; rfl)] at hB7
      have hbel7 := hbel.trans (hu7.below (B := w.heap.size) (by omega))
      clear hBs hBr hbel hu7
      go_wp2
      refine bodyPost_ret (results_cell_row rfl _ _ gr _ _ _ _ rfl hB7 Tryd.underlying34 rfl (by rw [List.size_toArray, SVc_length]; exact Tryd.size34)) rfl ⟨by rw [HM.out], hbel7⟩
end Go.Proofs.YtnhnfdfjlagcjaaDoor
