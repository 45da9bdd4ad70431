/-
  TokenCoversSource: small facts on lines in memory. No condition.
-/
import Derived.Test.YtcefaipjncohmaaGreatDoorVd
namespace Go.Proofs.YtcefaipjncohmaaGreatDoor
set_option linter.unusedVariables false
set_option linter.unusedSimpArgs false

theorem line_len : ∀ (l : List UInt8) (x : List UInt8), x ∈ linesL l → x.length ≤ l.length
  | [], x, h => by simp [linesL] at h; simp [h]
  | b :: r, x, h => by
    rw [linesL_cons] at h
    split at h
    · rcases List.mem_cons.1 h with rfl | h
      · exact Nat.zero_le _
      · have := line_len r x h
        simp only [List.length_cons]; omega
    · obtain ⟨y, t, e⟩ := linesL_ex r
      rw [e] at h
      rcases List.mem_cons.1 h with rfl | h
      · have := line_len r y (by rw [e]; simp)
        simp only [List.length_cons]; omega
      · have := line_len r x (by rw [e]; exact List.mem_cons_of_mem _ h)
        simp only [List.length_cons]; omega
theorem line_len_at {l : List UInt8} {i : Nat} {x : List UInt8} (h : (linesL l)[i]? = some x) : x.length ≤ l.length := line_len l x (List.mem_of_getElem? h)
theorem ext_list (Y : ByteArray) (a b : Nat) : (Y.extract a b).data.toList = (Y.data.toList.take b).drop a := by
  rw [cut_list, List.drop_take]
theorem ext_eq {Y : ByteArray} {a b : Nat} {x : List UInt8} (h : (Y.data.toList.take b).drop a = x) : Y.extract a b = ⟨x.toArray⟩ := data_inj (by rw [ext_list, h])
theorem tB_size0 {t : Tok} : (tB t).size = 0 ↔ t.text = [] := by
  have e : (tB t).size = t.text.length := mk_size t.text
  rw [e]
  exact List.length_eq_zero_iff
end Go.Proofs.YtcefaipjncohmaaGreatDoor
