/-
  Contract of the walk over the reference's Do. Conditions: the record holds the disk, the picks lie elsewhere.
-/
import Derived.Test.YtbmoedgokimhmaaRs2
namespace Go.Proofs.Ytbmoedgokimhmaa
open Go.RowKit

/-- An operation of a script. -/
structure OpM where
  kind : Int
  i : Int
  at_ : Int
  text : ByteArray
  picks : List Int
def DM.doS (M : DM) (x : OpM) : List UInt8 := if x.kind = 1 then M.readS x.i else []
def DM.doE (M : DM) (x : OpM) : Int := if x.kind = 1 then M.readE x.i else if x.kind = 2 then M.writeE x.i x.at_ x.text.data.toList else if x.kind = 3 then M.flushE else if x.kind = 6 then M.rotE x.i x.at_ else 0
def DM.doM (M : DM) (x : OpM) : DM := if x.kind = 2 then M.write x.i x.at_ x.text.data.toList else if x.kind = 3 then M.flush else if x.kind = 4 then M.tripTo x.i else if x.kind = 5 then M.mount x.picks else if x.kind = 6 then M.rot x.i x.at_ else M
structure inI (x : Int) : Prop where
  lo : -9223372036854775808 ≤ x
  hi : x ≤ 9223372036854775807
set_option maxRecDepth 100000 in
set_option maxHeartbeats 3200000 in
theorem rdo_any (gr ga cap : Nat) (X : List Value) (M : DM) (kind i at_ : Int) (tx : ByteArray) (A : Option Addr) (pc : Nat) (picks : List Int) (w : World) (hM : M.ok) (hi : inI i) (hat : inI at_) (htx : tx.size ≤ 1000000) (hpl : picks.length ≤ 1000000) (h : RRep w gr ga cap X M) (hpk : ∀ w', Only [gr, ga] w w' → PkAt w' A picks) :
    Calls Try.prog 19 #[.pointer (some ⟨gr, 0, none⟩), .agg #[.int .i64 kind, .int .i64 i, .int .i64 at_, .string tx, .slice A picks.length pc]] w fun e w' => e = .returned (.tuple #[S8 (M.doS ⟨kind, i, at_, tx, picks⟩), .int .i64 (M.doE ⟨kind, i, at_, tx, picks⟩)]) ∧ RRep w' gr ga cap X (M.doM ⟨kind, i, at_, tx, picks⟩) ∧ Only [gr, ga] w w' := by
  have HH := Lib.hid h
  have HM := Lib.hid hM
  have HI := Lib.hid hi
  have HA := Lib.hid hat
  have HPK := Lib.hid hpk
  obtain ⟨q, hq⟩ : ∃ q, Hid (picks.length = q) := ⟨_, rfl⟩
  rw [hq.out]
  rw [hq.out] at hpl
  clear h hM hi hat
  by_cases hk : kind = 1
  · subst hk
    clear hpk
    go_enter Try.func19, Try.ntmps19
    go_wp2_with (with_reducible refine wpList_box (o := ⟨some 3, .box 34 (.tmp 1), _, _, _, _⟩) ?g2 34 (.tmp 1) ?o2 (.agg #[.int .i64 1, .int .i64 i, .int .i64 at_, .string tx, .slice A q pc]) [.int .i64 1, .int .i64 i, .int .i64 at_, .string tx, .slice A q pc] ?x2 ?c2 ?_)
    try (case g2 => rfl)
    try (case o2 => rfl)
    try (case x2 => rfl)
    try (case c2 => rfl)
    intro gb w1 hgb hs1 hb1 hB1
    have hbel : Below w.heap.size w w1 := hb1.mono (Nat.le_of_eq hgb.out.symm)
    have k0 := hB1.cell (k := 0) rfl
    have k1 := hB1.cell (k := 1) rfl
    have k2 := hB1.cell (k := 2) rfl
    have k3 := hB1.cell (k := 3) rfl
    have k4 := hB1.cell (k := 4) rfl
    have h1 := HH.out.next hbel
    have ho1 : Only [gr, ga] w w1 := Only.of_below hbel
    clear hb1 hB1 hgb hs1
    go_wp2_with fail
    (with_reducible refine (rread_any gr ga cap X M _ _ _ _ rfl rfl h1).mono ?_)
    rintro e w2 ⟨rfl, rfl⟩
    have hoz := ho1
    have h2 := h1
    clear k0 k1 k2 k3 k4 h1 ho1
    go_wp2
    go_ret2
    exact ⟨rfl, h2, hoz⟩
  · have hn1 : (kind == 1) = false := beq_eq_false_iff_ne.2 hk
    have hm1 := hk
    by_cases hk : kind = 2
    · subst hk
      clear hpk
      go_enter Try.func19, Try.ntmps19
      go_wp2_with (with_reducible refine wpList_box (o := ⟨some 3, .box 34 (.tmp 1), _, _, _, _⟩) ?g2 34 (.tmp 1) ?o2 (.agg #[.int .i64 2, .int .i64 i, .int .i64 at_, .string tx, .slice A q pc]) [.int .i64 2, .int .i64 i, .int .i64 at_, .string tx, .slice A q pc] ?x2 ?c2 ?_)
      try (case g2 => rfl)
      try (case o2 => rfl)
      try (case x2 => rfl)
      try (case c2 => rfl)
      intro gb w1 hgb hs1 hb1 hB1
      have hbel : Below w.heap.size w w1 := hb1.mono (Nat.le_of_eq hgb.out.symm)
      have k0 := hB1.cell (k := 0) rfl
      have k1 := hB1.cell (k := 1) rfl
      have k2 := hB1.cell (k := 2) rfl
      have k3 := hB1.cell (k := 3) rfl
      have k4 := hB1.cell (k := 4) rfl
      have h1 := HH.out.next hbel
      have ho1 : Only [gr, ga] w w1 := Only.of_below hbel
      clear hb1 hB1 hgb hs1
      go_wp2_with fail
      (with_reducible refine (rwrite_any gr ga cap X M _ _ _ _ HM.out htx HA.out.lo HA.out.hi h1).mono ?_)
      rintro e w2 ⟨rfl, h2, ho2⟩
      have hoz := ho1.trans ho2
      clear k0 k1 k2 k3 k4 h1 ho1
      go_wp2
      go_ret2
      exact ⟨rfl, h2, hoz⟩
    · have hn2 : (kind == 2) = false := beq_eq_false_iff_ne.2 hk
      have hm2 := hk
      by_cases hk : kind = 3
      · subst hk
        clear hpk
        go_enter Try.func19, Try.ntmps19
        go_wp2_with (with_reducible refine wpList_box (o := ⟨some 3, .box 34 (.tmp 1), _, _, _, _⟩) ?g2 34 (.tmp 1) ?o2 (.agg #[.int .i64 3, .int .i64 i, .int .i64 at_, .string tx, .slice A q pc]) [.int .i64 3, .int .i64 i, .int .i64 at_, .string tx, .slice A q pc] ?x2 ?c2 ?_)
        try (case g2 => rfl)
        try (case o2 => rfl)
        try (case x2 => rfl)
        try (case c2 => rfl)
        intro gb w1 hgb hs1 hb1 hB1
        have hbel : Below w.heap.size w w1 := hb1.mono (Nat.le_of_eq hgb.out.symm)
        have k0 := hB1.cell (k := 0) rfl
        have k1 := hB1.cell (k := 1) rfl
        have k2 := hB1.cell (k := 2) rfl
        have k3 := hB1.cell (k := 3) rfl
        have k4 := hB1.cell (k := 4) rfl
        have h1 := HH.out.next hbel
        have ho1 : Only [gr, ga] w w1 := Only.of_below hbel
        clear hb1 hB1 hgb hs1
        go_wp2_with fail
        (with_reducible refine (rflush_any gr ga cap X M _ HM.out h1).mono ?_)
        rintro e w2 ⟨rfl, h2, ho2⟩
        have hoz := ho1.trans ho2
        clear k0 k1 k2 k3 k4 h1 ho1
        go_wp2
        go_ret2
        exact ⟨rfl, h2, hoz⟩
      · have hn3 : (kind == 3) = false := beq_eq_false_iff_ne.2 hk
        have hm3 := hk
        by_cases hk : kind = 4
        · subst hk
          clear hpk
          go_enter Try.func19, Try.ntmps19
          go_wp2_with (with_reducible refine wpList_box (o := ⟨some 3, .box 34 (.tmp 1), _, _, _, _⟩) ?g2 34 (.tmp 1) ?o2 (.agg #[.int .i64 4, .int .i64 i, .int .i64 at_, .string tx, .slice A q pc]) [.int .i64 4, .int .i64 i, .int .i64 at_, .string tx, .slice A q pc] ?x2 ?c2 ?_)
          try (case g2 => rfl)
          try (case o2 => rfl)
          try (case x2 => rfl)
          try (case c2 => rfl)
          intro gb w1 hgb hs1 hb1 hB1
          have hbel : Below w.heap.size w w1 := hb1.mono (Nat.le_of_eq hgb.out.symm)
          have k0 := hB1.cell (k := 0) rfl
          have k1 := hB1.cell (k := 1) rfl
          have k2 := hB1.cell (k := 2) rfl
          have k3 := hB1.cell (k := 3) rfl
          have k4 := hB1.cell (k := 4) rfl
          have h1 := HH.out.next hbel
          have ho1 : Only [gr, ga] w w1 := Only.of_below hbel
          clear hb1 hB1 hgb hs1
          go_wp2_with fail
          (with_reducible refine (rtrip_any gr ga cap X M _ _ HI.out.lo HI.out.hi h1).mono ?_)
          rintro e w2 ⟨rfl, h2, ho2⟩
          have hoz := ho1.trans (ho2.mono (by simp))
          clear k0 k1 k2 k3 k4 h1 ho1
          go_wp2
          go_ret2
          exact ⟨rfl, h2, hoz⟩
        · have hn4 : (kind == 4) = false := beq_eq_false_iff_ne.2 hk
          have hm4 := hk
          by_cases hk : kind = 5
          · subst hk
            clear hpk
            go_enter Try.func19, Try.ntmps19
            go_wp2_with (with_reducible refine wpList_box (o := ⟨some 3, .box 34 (.tmp 1), _, _, _, _⟩) ?g2 34 (.tmp 1) ?o2 (.agg #[.int .i64 5, .int .i64 i, .int .i64 at_, .string tx, .slice A q pc]) [.int .i64 5, .int .i64 i, .int .i64 at_, .string tx, .slice A q pc] ?x2 ?c2 ?_)
            try (case g2 => rfl)
            try (case o2 => rfl)
            try (case x2 => rfl)
            try (case c2 => rfl)
            intro gb w1 hgb hs1 hb1 hB1
            have hbel : Below w.heap.size w w1 := hb1.mono (Nat.le_of_eq hgb.out.symm)
            have k0 := hB1.cell (k := 0) rfl
            have k1 := hB1.cell (k := 1) rfl
            have k2 := hB1.cell (k := 2) rfl
            have k3 := hB1.cell (k := 3) rfl
            have k4 := hB1.cell (k := 4) rfl
            have h1 := HH.out.next hbel
            have ho1 : Only [gr, ga] w w1 := Only.of_below hbel
            clear hb1 hB1 hgb hs1
            go_wp2_with fail
            rw [← hq.out]
            (with_reducible refine (rmount_any gr ga cap X M A pc picks _ HM.out h1 (by rw [hq.out]; exact hpl) (fun w' ho => HPK.out w' (ho1.trans ho))).mono ?_)
            rintro e w2 ⟨rfl, h2, ho2⟩
            have hoz := ho1.trans ho2
            clear k0 k1 k2 k3 k4 h1 ho1
            go_wp2
            go_ret2
            exact ⟨rfl, h2, hoz⟩
          · have hn5 : (kind == 5) = false := beq_eq_false_iff_ne.2 hk
            have hm5 := hk
            by_cases hk : kind = 6
            · subst hk
              clear hpk
              go_enter Try.func19, Try.ntmps19
              go_wp2_with (with_reducible refine wpList_box (o := ⟨some 3, .box 34 (.tmp 1), _, _, _, _⟩) ?g2 34 (.tmp 1) ?o2 (.agg #[.int .i64 6, .int .i64 i, .int .i64 at_, .string tx, .slice A q pc]) [.int .i64 6, .int .i64 i, .int .i64 at_, .string tx, .slice A q pc] ?x2 ?c2 ?_)
              try (case g2 => rfl)
              try (case o2 => rfl)
              try (case x2 => rfl)
              try (case c2 => rfl)
              intro gb w1 hgb hs1 hb1 hB1
              have hbel : Below w.heap.size w w1 := hb1.mono (Nat.le_of_eq hgb.out.symm)
              have k0 := hB1.cell (k := 0) rfl
              have k1 := hB1.cell (k := 1) rfl
              have k2 := hB1.cell (k := 2) rfl
              have k3 := hB1.cell (k := 3) rfl
              have k4 := hB1.cell (k := 4) rfl
              have h1 := HH.out.next hbel
              have ho1 : Only [gr, ga] w w1 := Only.of_below hbel
              clear hb1 hB1 hgb hs1
              go_wp2_with fail
              (with_reducible refine (rrot_any gr ga cap X M _ _ _ HM.out h1).mono ?_)
              rintro e w2 ⟨rfl, h2, ho2⟩
              have hoz := ho1.trans ho2
              clear k0 k1 k2 k3 k4 h1 ho1
              go_wp2
              go_ret2
              exact ⟨rfl, h2, hoz⟩
            · have hn6 : (kind == 6) = false := beq_eq_false_iff_ne.2 hk
              have hm6 := hk
              have es : M.doS ⟨kind, i, at_, tx, picks⟩ = [] := by unfold DM.doS; rw [if_neg hm1]
              have ee : M.doE ⟨kind, i, at_, tx, picks⟩ = 0 := by unfold DM.doE; rw [if_neg hm1, if_neg hm2, if_neg hm3, if_neg hm6]
              have em : M.doM ⟨kind, i, at_, tx, picks⟩ = M := by unfold DM.doM; rw [if_neg hm2, if_neg hm3, if_neg hm4, if_neg hm5, if_neg hm6]
              rw [es, ee, em]
              clear hk hm1 hm2 hm3 hm4 hm5 hm6 hpk es ee em
              go_enter Try.func19, Try.ntmps19
              go_wp2_with (with_reducible refine wpList_box (o := ⟨some 3, .box 34 (.tmp 1), _, _, _, _⟩) ?g2 34 (.tmp 1) ?o2 (.agg #[.int .i64 kind, .int .i64 i, .int .i64 at_, .string tx, .slice A q pc]) [.int .i64 kind, .int .i64 i, .int .i64 at_, .string tx, .slice A q pc] ?x2 ?c2 ?_)
              try (case g2 => rfl)
              try (case o2 => rfl)
              try (case x2 => rfl)
              try (case c2 => rfl)
              intro gb w1 hgb hs1 hb1 hB1
              have hbel : Below w.heap.size w w1 := hb1.mono (Nat.le_of_eq hgb.out.symm)
              have k0 := hB1.cell (k := 0) rfl
              have k1 := hB1.cell (k := 1) rfl
              have k2 := hB1.cell (k := 2) rfl
              have k3 := hB1.cell (k := 3) rfl
              have k4 := hB1.cell (k := 4) rfl
              have h1 := HH.out.next hbel
              have ho1 : Only [gr, ga] w w1 := Only.of_below hbel
              clear hb1 hB1 hgb hs1
              clear k1 k2 k3 k4
              go_wp2
              go_ret2
              exact ⟨rfl, h1, ho1⟩
end Go.Proofs.Ytbmoedgokimhmaa
