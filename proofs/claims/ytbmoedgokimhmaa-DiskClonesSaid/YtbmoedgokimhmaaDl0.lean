/-
  Two disks that stay as they are while other blocks turn. Conditions: none.
-/
import Derived.Test.YtbmoedgokimhmaaDr1
namespace Go.Proofs.Ytbmoedgokimhmaa
open Go.RowKit

theorem Two.low {n0 n1 : Nat} {w : World} {gd gp gm cp : Nat} {Y : List Value} {k gr ga cap : Nat} {X : List Value} {M : DM} (h : Two n1 w gd gp gm cp Y k gr ga cap X M) (hn : n0 ≤ n1) : Two n0 w gd gp gm cp Y k gr ga cap X M := by
  obtain ⟨h1, h2, h3, h4, h5⟩ := h.b
  exact ⟨h.p, h.r, ⟨by omega, by omega, by omega, by omega, by omega⟩, h.e⟩
theorem Two.only {L : List Nat} {n0 : Nat} {w w' : World} {gd gp gm cp : Nat} {Y : List Value} {k gr ga cap : Nat} {X : List Value} {M : DM} (h : Two n0 w gd gp gm cp Y k gr ga cap X M) (ho : Only L w w') (hL : gd ∉ L ∧ gp ∉ L ∧ gm ∉ L ∧ gr ∉ L ∧ ga ∉ L) : Two n0 w' gd gp gm cp Y k gr ga cap X M :=
  ⟨h.p.only ho hL.1 hL.2.1 hL.2.2.1, h.r.only ho hL.2.2.2.1 hL.2.2.2.2, h.b, h.e⟩
end Go.Proofs.Ytbmoedgokimhmaa
