/-
  Contracts of the walks over Same (of equal lists) and Placeless. Conditions: the lists lie there.
-/
import Derived.Test.YtcefaipjncohmaaGreatDoorQs
import Derived.ChangeKeysEq
namespace Go.Proofs.YtcefaipjncohmaaGreatDoor
set_option linter.unusedVariables false
set_option linter.unusedSimpArgs false
open Go.RowKit Go.Shelf

theorem Tryz.guardT : Tryz.prog.eqGuardType Tryz.prog.depth 30 = false := by kernel_rfl
theorem Tryz.structT : Tryz.prog.underlying 30 = some (.struct (Tryz.prog.fieldsOf 30)) := by kernel_rfl
theorem Tryz.heldT : Tryz.prog.stoodInHeld 30 = false := by kernel_rfl
theorem Tryz.plainInt : Tryz.prog.plainKey 3 = true := by kernel_rfl
theorem Tryz.plainStr : Tryz.prog.plainKey 9 = true := by kernel_rfl
theorem equal_tok (w : World) (k : Nat) (a b : Int) (s : ByteArray) (c d : Int) :
    (Op.equalIn (k + 3) 30 (.agg #[Value.int .i64 a, .int .i64 b, .string s, .int .i64 c, .int .i64 d]) (.agg #[Value.int .i64 a, .int .i64 b, .string s, .int .i64 c, .int .i64 d])).run Tryz.prog w = .ok true w := by
  rw [run_equalIn_struct (P := Tryz.prog) w (k + 2) _ _ _ Tryz.structT Tryz.heldT]
  have hf : (Tryz.prog.fieldsOf 30).toList.map (fun f => (f.name == "_", f.type, f.offset)) = [(false, 3, 0), (false, 3, 1), (false, 9, 2), (false, 3, 3), (false, 3, 4)] := by kernel_rfl
  generalize (Tryz.prog.fieldsOf 30).toList = fs at hf
  obtain ⟨f0, f1, f2, f3, f4, rfl⟩ : ∃ f0 f1 f2 f3 f4, fs = [f0, f1, f2, f3, f4] := by
    rcases fs with _ | ⟨f0, _ | ⟨f1, _ | ⟨f2, _ | ⟨f3, _ | ⟨f4, _ | ⟨x, r⟩⟩⟩⟩⟩⟩
    · simp at hf
    · simp at hf
    · simp at hf
    · simp at hf
    · simp at hf
    · exact ⟨f0, f1, f2, f3, f4, rfl⟩
    · simp at hf
  simp only [List.map_cons, List.map_nil, List.cons.injEq, Prod.mk.injEq, and_true] at hf
  obtain ⟨⟨n0, t0, o0⟩, ⟨n1, t1, o1⟩, ⟨n2, t2, o2⟩, ⟨n3, t3, o3⟩, n4, t4, o4⟩ := hf
  have p0 := run_part_plain (P := Tryz.prog) (w := w) Tryz.plainInt (xs := #[Value.int .i64 a, .int .i64 b, .string s, .int .i64 c, .int .i64 d]) (off := 0) (v := .int .i64 a) rfl
  have q0 : (Op.equalIn (k + 2) 3 (.int .i64 a) (.int .i64 a)).run Tryz.prog w = .ok true w := by
    rw [run_equalIn_int (P := Tryz.prog) w (k + 1) 3 .i64 .i64 _ _ Tryz.underlying3]
    simp
  have k0 := beq_eq_false_iff_ne.1 n0
  have p1 := run_part_plain (P := Tryz.prog) (w := w) Tryz.plainInt (xs := #[Value.int .i64 a, .int .i64 b, .string s, .int .i64 c, .int .i64 d]) (off := 1) (v := .int .i64 b) rfl
  have q1 : (Op.equalIn (k + 2) 3 (.int .i64 b) (.int .i64 b)).run Tryz.prog w = .ok true w := by
    rw [run_equalIn_int (P := Tryz.prog) w (k + 1) 3 .i64 .i64 _ _ Tryz.underlying3]
    simp
  have k1 := beq_eq_false_iff_ne.1 n1
  have p2 := run_part_plain (P := Tryz.prog) (w := w) Tryz.plainStr (xs := #[Value.int .i64 a, .int .i64 b, .string s, .int .i64 c, .int .i64 d]) (off := 2) (v := .string s) rfl
  have q2 : (Op.equalIn (k + 2) 9 (.string s) (.string s)).run Tryz.prog w = .ok true w := by
    rw [run_equalIn_string (P := Tryz.prog) w (k + 1) 9 _ _ Tryz.underlying9]
    simp
  have k2 := beq_eq_false_iff_ne.1 n2
  have p3 := run_part_plain (P := Tryz.prog) (w := w) Tryz.plainInt (xs := #[Value.int .i64 a, .int .i64 b, .string s, .int .i64 c, .int .i64 d]) (off := 3) (v := .int .i64 c) rfl
  have q3 : (Op.equalIn (k + 2) 3 (.int .i64 c) (.int .i64 c)).run Tryz.prog w = .ok true w := by
    rw [run_equalIn_int (P := Tryz.prog) w (k + 1) 3 .i64 .i64 _ _ Tryz.underlying3]
    simp
  have k3 := beq_eq_false_iff_ne.1 n3
  have p4 := run_part_plain (P := Tryz.prog) (w := w) Tryz.plainInt (xs := #[Value.int .i64 a, .int .i64 b, .string s, .int .i64 c, .int .i64 d]) (off := 4) (v := .int .i64 d) rfl
  have q4 : (Op.equalIn (k + 2) 3 (.int .i64 d) (.int .i64 d)).run Tryz.prog w = .ok true w := by
    rw [run_equalIn_int (P := Tryz.prog) w (k + 1) 3 .i64 .i64 _ _ Tryz.underlying3]
    simp
  have k4 := beq_eq_false_iff_ne.1 n4
  have e4 : (Op.eqFields (k + 2) #[Value.int .i64 a, .int .i64 b, .string s, .int .i64 c, .int .i64 d] #[Value.int .i64 a, .int .i64 b, .string s, .int .i64 c, .int .i64 d] [f4]).run Tryz.prog w = .ok true w := by
    rw [Op.eqFields]
    simp only [t4, o4, Sem.run_bind, Sem.run_ite, Sem.run_pure, p4, Result.andThen_ok, q4, Op.eqFields]
    rw [if_pos (by simpa using k4)]
    simp
  have e3 : (Op.eqFields (k + 2) #[Value.int .i64 a, .int .i64 b, .string s, .int .i64 c, .int .i64 d] #[Value.int .i64 a, .int .i64 b, .string s, .int .i64 c, .int .i64 d] [f3, f4]).run Tryz.prog w = .ok true w := by
    rw [Op.eqFields]
    simp only [t3, o3, Sem.run_bind, Sem.run_ite, Sem.run_pure, p3, Result.andThen_ok, q3, e4]
    rw [if_pos (by simpa using k3)]
    simp
  have e2 : (Op.eqFields (k + 2) #[Value.int .i64 a, .int .i64 b, .string s, .int .i64 c, .int .i64 d] #[Value.int .i64 a, .int .i64 b, .string s, .int .i64 c, .int .i64 d] [f2, f3, f4]).run Tryz.prog w = .ok true w := by
    rw [Op.eqFields]
    simp only [t2, o2, Sem.run_bind, Sem.run_ite, Sem.run_pure, p2, Result.andThen_ok, q2, e3]
    rw [if_pos (by simpa using k2)]
    simp
  have e1 : (Op.eqFields (k + 2) #[Value.int .i64 a, .int .i64 b, .string s, .int .i64 c, .int .i64 d] #[Value.int .i64 a, .int .i64 b, .string s, .int .i64 c, .int .i64 d] [f1, f2, f3, f4]).run Tryz.prog w = .ok true w := by
    rw [Op.eqFields]
    simp only [t1, o1, Sem.run_bind, Sem.run_ite, Sem.run_pure, p1, Result.andThen_ok, q1, e2]
    rw [if_pos (by simpa using k1)]
    simp
  have e0 : (Op.eqFields (k + 2) #[Value.int .i64 a, .int .i64 b, .string s, .int .i64 c, .int .i64 d] #[Value.int .i64 a, .int .i64 b, .string s, .int .i64 c, .int .i64 d] [f0, f1, f2, f3, f4]).run Tryz.prog w = .ok true w := by
    rw [Op.eqFields]
    simp only [t0, o0, Sem.run_bind, Sem.run_ite, Sem.run_pure, p0, Result.andThen_ok, q0, e1]
    rw [if_pos (by simpa using k0)]
    simp
  exact e0
theorem neqT (w : World) (a b : Int) (s : ByteArray) (c d : Int) : (binOp .neq 30 (.agg #[Value.int .i64 a, .int .i64 b, .string s, .int .i64 c, .int .i64 d]) (.agg #[Value.int .i64 a, .int .i64 b, .string s, .int .i64 c, .int .i64 d])).run Tryz.prog w = .ok (.bool false) w := by
  rw [run_neq_struct, equal_tok w 9997]; rfl
theorem TksAt.five {w : World} {A : Option Addr} {l : List Tok} (h : TksAt w A l) {k : Nat} {t : Tok} (ht : l[k]? = some t) : ∃ g o, A = some ⟨g, o, none⟩ ∧ w.cell? ⟨g, o + k * 5, none⟩ = some (.int .i64 (t.kind : Int)) ∧ w.cell? ⟨g, o + k * 5 + 1, none⟩ = some (.int .i64 (t.n : Int)) ∧ w.cell? ⟨g, o + k * 5 + 2, none⟩ = some (.string (tB t)) ∧ w.cell? ⟨g, o + k * 5 + 3, none⟩ = some (.int .i64 (t.line : Int)) ∧ w.cell? ⟨g, o + k * 5 + 4, none⟩ = some (.int .i64 (t.col : Int)) := by
  obtain ⟨g, o, e, hc⟩ := h k t ht
  exact ⟨g, o, e, hc 0 _ rfl, hc 1 _ rfl, hc 2 _ rfl, hc 3 _ rfl, hc 4 _ rfl⟩
def SmRel (n : Nat) (w : World) (i : Value) (wr : World) : Prop := ∃ k : Nat, k ≤ n ∧ i = .int .i64 (k : Int) ∧ Below w.heap.size w wr

















































/-- A token without its place. -/
def noPl (t : Tok) : Tok := { t with line := 0, col := 0 }
def PlRel (l : List Tok) (w : World) (i v : Value) (wr : World) : Prop :=
  ∃ k : Nat, k ≤ l.length ∧ i = .int .i64 (k : Int) ∧ wr.ownsRow w.heap.size 30 5 v k (flatT ((l.take k).map noPl)) ∧ Below w.heap.size w wr














































































































end Go.Proofs.YtcefaipjncohmaaGreatDoor
