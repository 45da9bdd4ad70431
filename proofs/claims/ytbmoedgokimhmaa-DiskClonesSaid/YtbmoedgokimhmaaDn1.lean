/-
  Laws for Mount: the first bytes of an array variable as a slice, and a copy between two rows of bytes. Conditions: none.
-/
import Derived.Test.YtbmoedgokimhmaaDf9
import Derived.Test.YtbmoedgokimhmaaRs3
namespace Go.Proofs.Ytbmoedgokimhmaa
open Go.RowKit
variable {P : Program}

theorem run_cutTo (g b k : Nat) (hk : k ≤ 128) (w : World) : (Instr.sliceAt 108 (.pointer (some ⟨g, b, none⟩)) none (some (.int .i64 (k : Int))) none).run Try.prog w = .ok (.slice (some ⟨g, b, none⟩) k 128) w := by
  obtain ⟨e1, e2⟩ := arrayLen_of Try.underlying108
  have hrun := run_sliceAt_array_h (P := Try.prog) w 108 ⟨g, b, none⟩ (by rw [e1, e2]; exact Try.underlying108) .i64 (k : Int) (by omega) (by rw [e1]; omega)
  have hs := Try.sz5
  cases hq : Try.prog.info? 5 with
  | none => simp [hq] at hs
  | some i =>
    have hz : i.size = 1 := by simpa [hq] using hs
    rw [e1, e2] at hrun
    simp [sizeOf, typeInfo, hq, hz, slicedAt, addr_mid] at hrun
    exact hrun
/-- A copy of n bytes from a row into a part of a variable, as one step. -/
theorem wp_copyRow {o : Oper} {a : Act} {w : World} {K : Act → World → Prop} {Q : Exit → Act → World → Prop} (d s : Operand) (dT sT : TypeId)
    (ho : o.op = .call { callee := .builtin .copy, args := #[d, s], argTypes := #[dT, sT] }) (elem : TypeId) (hu : P.underlying dT = some (.slice elem)) (hsz : (P.info? elem).map (·.size) = some 1)
    (g k n dCap : Nat) (hd : a.eval d = .slice (some ⟨g, k, none⟩) n dCap) (ad : Addr) (sCap : Nat) (hs : a.eval s = .slice (some ad) n sCap) (cs : List Value) (hn : cs.length = n) (hsrc : ∀ j v, cs[j]? = some v → w.cell? (ad.add j) = some v) (h1 : ∀ v ∈ cs, v.oneCell' = true)
    {t : TypeId} {l : List Value} (hb : Blk w g t l) (hl : k + n ≤ l.length)
    (h : ∀ w', Upd g w w' → Blk w' g t (splice l k cs) → K (a.put o.dst (goInt n)) w') : Oper.wp P o a w K Q := by
  have hrun := run_copy_row (P := P) w dT sT o.type elem g k n dCap ad n sCap l.toArray t cs hu hsz hb (by rw [hn]; exact (Nat.min_self n).symm) hsrc (by rw [hn]; simpa using hl) h1
  rw [hn] at hrun
  unfold Oper.wp
  simp [execOp, ho, resolve, invoke, builtin, hd, hs, hrun, Result.andThen]
  have := h _ (upd_setRow w g _) (blk_setRow hb (splice l k cs))
  unfold splice at this
  rw [hn] at this
  first
    | exact this
    | (rw [List.append_assoc] at this; exact this)
    | (simp only [List.append_assoc] at this; exact this)
end Go.Proofs.Ytbmoedgokimhmaa
