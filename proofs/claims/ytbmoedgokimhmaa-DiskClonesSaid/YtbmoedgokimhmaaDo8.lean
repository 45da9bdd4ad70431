/-
  The law package's sanity returns true. Conditions: none.
-/
import Derived.Test.YtbmoedgokimhmaaDo7
namespace Go.Proofs.Ytbmoedgokimhmaa
open Go.RowKit

theorem sanity_any (w : World) : Calls Try.prog 15 #[] w fun e w' => e = .returned (.bool true) ∧ Below w.heap.size w w' := by
  obtain ⟨a, b, c, d, e, f, g, h, i⟩ := sd_ok
  obtain ⟨_, lb, li⟩ := sd_len
  have pz : (pendZ sdB).map (Value.int .i64) = [.int .i64 0] := by
    unfold pendZ
    rw [ev_pe]; rfl
  have im : sdB.image.map S8 = [.string (zN 128), .string (zN 128)] := by rw [ev_im]; rfl
  have s4 : (⟨(sdI.readS 0).toArray⟩ : ByteArray) = tE := by
    unfold DM.readS
    rw [ev_up]; rfl
  exact sanity_walk sdB sdC sdD sdE sdF sdG sdH sdI _ _ _ (zN 124) (zN 125) (zN 127) (zN 128) w (Lib.hid a) (Lib.hid b) (Lib.hid c) (Lib.hid d) (Lib.hid e) (Lib.hid f) (Lib.hid g) (Lib.hid h) (Lib.hid i)
    (Lib.hid rfl) (Lib.hid rfl) (Lib.hid rfl) (Lib.hid rfl) (Lib.hid rfl) (Lib.hid rfl) (Lib.hid rfl) (Lib.hid rfl) (Lib.hid ev_w1) (Lib.hid ev_r1) (Lib.hid rfl) (Lib.hid im) (Lib.hid (by rw [ev_pe]; rfl)) (Lib.hid pz)
    (Lib.hid ev_r2) (Lib.hid rfl) (Lib.hid ev_w2) (Lib.hid ev_f1) (Lib.hid ev_o1) (Lib.hid ev_r3) (Lib.hid rfl) (Lib.hid ev_w3) (Lib.hid ev_f2) (Lib.hid ev_r4) (Lib.hid s4) (Lib.hid ev_up) (Lib.hid ev_o2.1) (Lib.hid lb) (Lib.hid li)
    (Lib.hid rfl) (Lib.hid rfl) (Lib.hid rfl) (Lib.hid rfl) ev_s1 ev_s2 ev_s3 (by rw [ev_zs]; omega) (by rw [ev_zs]; omega) (by rw [ev_zs]; omega)
end Go.Proofs.Ytbmoedgokimhmaa
