/-
  What Verify answers to a text that begins with a right index and has the right length; a message's index of one byte. Conditions: the index is one of the tree's.
-/
import Derived.Test.YtkakiepaffhhjaaDoorJJ
namespace Go.Proofs.YtkakiepaffhhjaaDoor
open Go.RowKit

theorem vfy_tail (pub msg tail : List UInt8) (m k : Nat) (hk : k < 2 ^ m) (h6 : m ≤ 6) (hl : tail.length = 16 * (35 + m)) :
    vfy pub (m : Int) msg (WM.encI (k : Int) ++ tail) = (if SG.root pub k msg tail m = pub then (k : Int) else 0, if SG.root pub k msg tail m = pub then 0 else 8) := by
  have h64 := k64_of hk h6
  have hg := getI_at h64 tail
  have := vfy_eq (pub := pub) (ml := msg) (okH_of h6) hg (okI2_of hk h6) (by rw [List.length_append, encI_one h64, hl, siz_at hk h6]; omega)
  rw [this, drop_encI h64, Int.toNat_natCast, Int.toNat_natCast]
theorem pubD_of (seed : List UInt8) {m : Nat} (h6 : m ≤ 6) : pubD seed (m : Int) = SG.value seed m 0 := by unfold pubD; rw [if_pos (okH_of h6), Int.toNat_natCast]
theorem pubE_of {m : Nat} (h6 : m ≤ 6) : pubE (m : Int) = 0 := by unfold pubE; rw [if_pos (okH_of h6)]
theorem sgS_of (seed msg : List UInt8) {m k : Nat} (hk : k < 2 ^ m) (h6 : m ≤ 6) : sgS seed (m : Int) (k : Int) msg = SG.sig seed m k msg := by unfold sgS; rw [if_pos (okI2_of hk h6), Int.toNat_natCast, Int.toNat_natCast]
theorem sgE_of {m k : Nat} (hk : k < 2 ^ m) (h6 : m ≤ 6) : sgE (m : Int) (k : Int) = 0 := by unfold sgE; rw [if_pos (okH_of h6), if_pos (okI2_of hk h6)]
theorem cnt_of {m : Nat} (h6 : m ≤ 6) : cnt (m : Int) = 2 ^ m := by unfold cnt; rw [if_pos (okH_of h6), Int.toNat_natCast]
theorem ext_take (s : ByteArray) (k : Nat) : (s.extract 0 k).data.toList = s.data.toList.take k := by
  obtain ⟨l, rfl, e⟩ := str_eta s
  rw [take_extract, str_toList, str_toList]
theorem app_list (a b : ByteArray) : (a ++ b).data.toList = a.data.toList ++ b.data.toList := by
  obtain ⟨l, rfl, e⟩ := str_eta a
  rw [str_appL, str_toList, str_toList]
theorem app_empty (a b : ByteArray) (h : b.size = 0) : (a ++ b).data.toList = a.data.toList := by
  rw [app_list]
  have : b.data.toList = [] := List.eq_nil_of_length_eq_zero (by rw [bytes_size]; exact h)
  rw [this, List.append_nil]
end Go.Proofs.YtkakiepaffhhjaaDoor
