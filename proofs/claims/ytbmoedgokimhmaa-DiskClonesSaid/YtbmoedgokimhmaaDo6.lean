/-
  What the disks of the laws' sanity hold, by evaluation. Conditions: none.
-/
import Derived.Test.YtbmoedgokimhmaaDo5
namespace Go.Proofs.Ytbmoedgokimhmaa
open Go.RowKit

abbrev tABC : ByteArray := { data := #[97, 98, 99] }
abbrev tX : ByteArray := { data := #[120] }
abbrev tE : ByteArray := { data := #[] }
def sdA : DM := DM.make 2
def sdB : DM := sdA.write 0 1 tABC.data.toList
def sdC : DM := sdB.mount [3]
def sdD : DM := sdC.write 1 127 tX.data.toList
def sdE : DM := sdD.flush
def sdF : DM := sdE.rot 1 1016
def sdG : DM := sdF.tripTo 1
def sdH : DM := sdG.write 0 0 tE.data.toList
def sdI : DM := sdH.flush
def zN (n : Nat) : ByteArray := ⟨(List.replicate n (0 : UInt8)).toArray⟩
theorem sd_ok : sdA.ok ∧ sdB.ok ∧ sdC.ok ∧ sdD.ok ∧ sdE.ok ∧ sdF.ok ∧ sdG.ok ∧ sdH.ok ∧ sdI.ok := by
  have a : sdA.ok := DM.make_ok (by omega)
  have b : sdB.ok := DM.write_ok a _ _ _
  have c : sdC.ok := DM.mount_ok b _
  have d : sdD.ok := DM.write_ok c _ _ _
  have e : sdE.ok := DM.flush_ok d
  have f : sdF.ok := DM.rot_ok e _ _
  have g : sdG.ok := DM.tripTo_ok f ⟨by omega, by omega⟩
  have h : sdH.ok := DM.write_ok g _ _ _
  exact ⟨a, b, c, d, e, f, g, h, DM.flush_ok h⟩
theorem sd_len : sdA.ps.length = 2 ∧ sdB.ps.length = 2 ∧ sdI.ps.length = 2 := by
  have a : sdA.ps.length = 2 := rfl
  have b : sdB.ps.length = 2 := (DM.write_len sdA 0 1 _).trans a
  refine ⟨a, b, ?_⟩
  unfold sdI sdH sdG sdF sdE sdD sdC
  rw [DM.flush_len, DM.write_len, show ∀ (M : DM) n, (M.tripTo n).ps.length = M.ps.length from fun _ _ => rfl, DM.rot_len, DM.flush_len, DM.write_len, DM.mount_len, b]
theorem ev_w1 : sdA.writeE 0 1 tABC.data.toList = 0 := by decide +kernel
theorem ev_r1 : sdB.readE 0 = 0 := by decide +kernel
theorem ev_s1 : ({ data := #[0, 97, 98, 99] } : ByteArray) ++ zN 124 = (⟨(sdB.readS 0).toArray⟩ : ByteArray) := by kernel_rfl
theorem ev_im : sdB.image = [List.replicate 128 0, List.replicate 128 0] := by decide +kernel
theorem ev_pe : sdB.pending = [0] := by decide +kernel
theorem ev_r2 : sdC.readE 0 = 0 := by decide +kernel
theorem ev_s2 : ({ data := #[0, 97, 98] } : ByteArray) ++ zN 125 = (⟨(sdC.readS 0).toArray⟩ : ByteArray) := by kernel_rfl
theorem ev_w2 : sdC.writeE 1 127 tX.data.toList = 0 := by decide +kernel
theorem ev_f1 : sdD.flushE = 0 := by decide +kernel
theorem ev_o1 : sdE.rotE 1 1016 = 0 := by decide +kernel
theorem ev_r3 : sdF.readE 1 = 0 := by decide +kernel
theorem ev_s3 : zN 127 ++ ({ data := #[121] } : ByteArray) = (⟨(sdF.readS 1).toArray⟩ : ByteArray) := by kernel_rfl
theorem ev_w3 : sdG.writeE 0 0 tE.data.toList = 0 := by decide +kernel
theorem ev_f2 : sdH.flushE = 13 := by decide +kernel
theorem ev_r4 : sdI.readE 0 = 13 := by decide +kernel
theorem ev_up : sdI.up = false := by decide +kernel
theorem ev_o2 : sdI.rotE 0 1024 = 1 ∧ sdI.rot 0 1024 = sdI := rot_bad (by decide +kernel)
theorem ev_zs (n : Nat) : (zN n).size = n := by unfold zN; rw [str_size, List.length_replicate]
end Go.Proofs.Ytbmoedgokimhmaa
