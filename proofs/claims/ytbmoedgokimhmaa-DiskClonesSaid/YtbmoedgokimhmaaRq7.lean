/-
  Contract of the walk over the reference's zeros. Conditions: at most 10^6 of them.
-/
import Derived.Test.YtbmoedgokimhmaaRq6
namespace Go.Proofs.Ytbmoedgokimhmaa
open Go.RowKit

theorem Try.infoB : (Try.prog.info? 5).map (fun i => (i.zero, i.size, i.bytes)) = some (some (.int .u8 0), 1, 1) := by kernel_rfl
theorem zeroB (n : Nat) : List.replicate n (Value.int .u8 0) = (List.replicate n (0 : UInt8)).map B8 := by rw [List.map_replicate]; rfl
set_option maxRecDepth 100000 in
theorem rzeros_any (n : Nat) (w : World) (hn : n ≤ 1000000) :
    Calls Try.prog 56 #[.int .i64 (n : Int)] w fun e w' => e = .returned (S8 (List.replicate n 0)) ∧ Below w.heap.size w w' := by
  obtain ⟨i0, hi, hz0, hz1, hz2⟩ := info_parts Try.infoB
  go_enter Try.func56, Try.ntmps56
  go_wp2_with (at_make; refine wpList_make_full _ rfl _ _ 110 rfl w.heap.size 5 i0 _ 1 Try.underlying110 hi hz0 hz1 _ _ _ _ n rfl rfl rfl rfl ?b2 ?b3 ?b4 ?_)
  case b2 => rw [hz2]; omega
  case b3 => unfold maxLen; omega
  case b4 => omega
  intro w1 hown1 hg1
  have hbel1 := (Below.refl w.heap.size w).grown hg1 (Nat.le_refl _) (fun k hk => by cases hk)
  have hB1 : Blk w1 w.heap.size 5 ((List.replicate n (0 : UInt8)).map B8) := by
    have hown2 := hown1
    rw [show (madeCells #[Value.int .u8 0] n).toList = List.replicate n (Value.int .u8 0) from made_rep 1 n _ (by decide), zeroB] at hown2
    exact own_blk hown2
  have hcv := run_conv_at w1 (some ⟨w.heap.size, 0, none⟩) n n (List.replicate n (0 : UInt8)) (by rw [List.length_replicate]) (fun q u hu => ⟨_, rfl, by rw [addr_mid, Nat.zero_add]; exact hB1.cell hu⟩)
  clear hown1 hg1 hB1
  go_wp2
  go_ret
  exact ⟨rfl, hbel1⟩
end Go.Proofs.Ytbmoedgokimhmaa
