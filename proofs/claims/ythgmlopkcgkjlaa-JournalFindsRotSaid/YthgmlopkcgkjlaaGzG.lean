/-
  Contracts of the functions that the statement calls, part 33 of 37 (merged texts: Jk7, Jk8, Jk9, Jl0, Jl1). Conditions: as the head of each part says.
-/
import Derived.Test.YthgmlopkcgkjlaaGzF
import Derived.ArgAppend

/-
  Contracts of the walks over the journal's keep, Replace and Append. Conditions: the record, the disk and the records lie there.
-/
namespace Go.Proofs.Ythgmlopkcgkjlaa
open Go.RowKit Go.Shelf

theorem Try.szBo : (Try.prog.info? 4).map (·.size) = some 1 := by kernel_rfl
theorem keep_closed (gj gd half : Nat) (A A2 : Option Addr) (c c2 n2 : Nat) (l : List ByteArray) (w : World) (hj : JRec w gj gd half A c l true) :
    Calls Try.prog 81 #[.pointer (some ⟨gj, 0, none⟩), .slice A2 n2 c2] w fun e w' => e = .returned (.int .i64 13) ∧ w = w' := by
  have c3 := hj.d.cell (k := 3) rfl
  clear hj
  go_enter Try.func81, Try.ntmps81
  go_wp2
  go_ret
  exact ⟨rfl, rfl⟩
theorem keep_long (gj gd half : Nat) (A A2 : Option Addr) (c c2 n2 : Nat) (l rs : List ByteArray) (w : World) (hn2 : rs.length = n2) (hn6 : n2 ≤ 1000000) (hlong : rs.any (fun r => decide (8000 < r.size)) = true) (hR : RowAt w A2 (rs.map Value.string)) (hj : JRec w gj gd half A c l false) :
    Calls Try.prog 81 #[.pointer (some ⟨gj, 0, none⟩), .slice A2 n2 c2] w fun e w' => e = .returned (.int .i64 2) ∧ w = w' := by
  have c3 := hj.d.cell (k := 3) rfl
  clear hj
  go_enter Try.func81, Try.ntmps81
  go_wp2_with fail
  (with_reducible refine (contains_any A2 c2 n2 rs true _ hn2 hn6 hlong hR).mono ?_)
  rintro e w' ⟨rfl, rfl⟩
  go_wp2
  go_ret
  exact ⟨rfl, rfl⟩
theorem keep_full (gj gd half : Nat) (A A2 : Option Addr) (c c2 : Nat) (l rs : List ByteArray) (gp gm k cp : Nat) (Y : List Value) (M : DM) (n : Nat) (w : World) (hn : M.ps.length = n) (h4 : 4 ≤ n) (h40 : n ≤ 40) (hu6 : JM.useR rs ≤ 1000000) (hlong : rs.any (fun r => decide (8000 < r.size)) = false) (hfull : capOf n < JM.useR rs) (hR : RowAt w A2 (rs.map Value.string)) (h : PRep w gd gp gm cp Y M k) (hj : JRec w gj gd half A c l false) :
    Calls Try.prog 81 #[.pointer (some ⟨gj, 0, none⟩), .slice A2 rs.length c2] w fun e w' => e = .returned (.int .i64 12) ∧ w = w' := by
  have c3 := hj.d.cell (k := 3) rfl
  have hn6 : rs.length ≤ 1000000 := by have := JM.useR_count rs; omega
  have hfi : (capOf n : Int) < (JM.useR rs : Int) := by omega
  have HF := Lib.hid hfi
  clear hfi hfull
  go_enter Try.func81, Try.ntmps81
  go_wp2_with fail
  (with_reducible refine (contains_any A2 c2 rs.length rs false _ rfl hn6 hlong hR).mono ?_)
  rintro e w' ⟨rfl, rfl⟩
  go_wp2_with fail
  (with_reducible refine (use_any A2 c2 rs _ hu6 hR).mono ?_)
  rintro e w' ⟨rfl, rfl⟩
  go_wp2_with fail
  (with_reducible refine (jcap_any gj half A c l false gd gp gm k cp Y M n _ hn h4 h40 h hj).mono ?_)
  rintro e w' ⟨rfl, rfl⟩
  have hfi := HF.out
  generalize capOf n = C at hfi ⊢
  generalize JM.useR rs = U at hfi ⊢
  clear h hj
  go_wp2
  go_ret
  exact ⟨rfl, rfl⟩
/-- What keep leaves of the program's record. -/
def KeptJ (w' : World) (gj gd half x : Nat) (A A2 : Option Addr) (c c2 : Nat) (l rs : List ByteArray) (up : Bool) : Prop :=
  (up = true → JRec w' gj gd x A2 c2 rs false) ∧ (up = false → JRec w' gj gd half A c l true)
set_option maxRecDepth 100000 in
set_option maxHeartbeats 1600000 in
theorem keep_write (gj half x : Nat) (A A2 : Option Addr) (c c2 : Nat) (l rs : List ByteArray) (gd gp gm k cp : Nat) (Y : List Value) (M : DM) (n : Nat) (w : World) (hh : half ≤ 1) (hx : x = 1 - half) (hM : M.ok) (hn : M.ps.length = n) (h4 : 4 ≤ n) (h40 : n ≤ 40) (hk : k ≤ 800000) (hu : JM.useR rs ≤ capOf n) (hlong : rs.any (fun r => decide (8000 < r.size)) = false)
    (hjd : gj ∉ [gd, gp, gm]) (hA2 : ∀ g, A2 = some ⟨g, 0, none⟩ → g ∉ [gj, gd, gp, gm]) (hA : ∀ g, A = some ⟨g, 0, none⟩ → g ∉ [gd, gp, gm]) (hAl : ∀ g, A = some ⟨g, 0, none⟩ → g < w.heap.size) (hA2l : ∀ g, A2 = some ⟨g, 0, none⟩ → g < w.heap.size) (hR : RowAt w A2 (rs.map Value.string)) (h : PRep w gd gp gm cp Y M k) (hj : JRec w gj gd half A c l false) :
    Calls Try.prog 81 #[.pointer (some ⟨gj, 0, none⟩), .slice A2 rs.length c2] w fun e w' => e = .returned (.int .i64 (upE (JM.keepM M (2 + x * hpOf n) x (JM.stream rs)))) ∧ PRep w' gd gp gm cp Y (JM.keepM M (2 + x * hpOf n) x (JM.stream rs)) (k + 41) ∧ KeptJ w' gj gd half x A A2 c c2 l rs (JM.keepM M (2 + x * hpOf n) x (JM.stream rs)).up ∧ Only [gj, gd, gp, gm] w w' := by
  have c3 := hj.d.cell (k := 3) rfl
  have hcb : capOf n ≤ 2432 := by unfold capOf; omega
  have hn6 : rs.length ≤ 1000000 := by have := JM.useR_count rs; omega
  have hu6 : JM.useR rs ≤ 1000000 := by omega
  have hui : (JM.useR rs : Int) ≤ (capOf n : Int) := by omega
  have HUI := Lib.hid hui
  have HUC := Lib.hid hu
  have HHX := Lib.hid hx
  have hx1 : x ≤ 1 := by omega
  have hr8 : ∀ r ∈ rs, r.size ≤ 8000 := fun r hr => by
    have := List.any_eq_false.1 hlong r hr
    simpa using this
  have HR8 := Lib.hid hr8
  obtain ⟨KM, hKM⟩ : ∃ KM, Hid (JM.keepM M (2 + x * hpOf n) x (JM.stream rs) = KM) := ⟨_, rfl⟩
  rw [hKM.out]
  have HM := Lib.hid hM
  clear hui hu hx hr8 hM
  go_enter Try.func81, Try.ntmps81
  go_wp2_with fail
  (with_reducible refine (contains_any A2 c2 rs.length rs false _ rfl hn6 hlong hR).mono ?_)
  rintro e w' ⟨rfl, rfl⟩
  go_wp2_with fail
  (with_reducible refine (use_any A2 c2 rs _ hu6 hR).mono ?_)
  rintro e w' ⟨rfl, rfl⟩
  go_wp2_with fail
  (with_reducible refine (jcap_any gj half A c l false gd gp gm k cp Y M n _ hn h4 h40 h hj).mono ?_)
  rintro e w' ⟨rfl, rfl⟩
  have hui := HUI.out
  obtain ⟨C, hC⟩ : ∃ C, Hid (capOf n = C) := ⟨_, rfl⟩
  obtain ⟨U, hU⟩ : ∃ U, Hid (JM.useR rs = U) := ⟨_, rfl⟩
  rw [hC.out, hU.out] at hui
  rw [hC.out, hU.out]
  have c1 := hj.d.cell (k := 1) rfl
  have hxi : (1 : Int) - (half : Int) = (x : Int) := by have := HHX.out; omega
  obtain ⟨N, hN⟩ : ∃ N, Hid (rs.length = N) := ⟨_, rfl⟩
  have hargs : Hid (Value.slice A2 rs.length c2 = Value.slice A2 N c2) := by
    have : Value.slice A2 rs.length c2 = Value.slice A2 N c2 := by rw [hN.out]
    exact this
  clear hlong hn6 hu6 hcb
  go_wp2_with fail
  (with_reducible refine (fill_any gj half x A A2 c c2 l rs false gd gp gm k cp Y M n _ hx1 HM.out hn h4 h40 hk HUC.out HR8.out hjd (fun g hg => by have := hA2 g hg; simp at this ⊢; omega) hAl hA2l hR h hj).mono ?_)
  rintro e w2 ⟨rfl, h2, ho2⟩
  have hML0 : 0 < M.ps.length := by omega
  obtain ⟨tM, tE⟩ := turn_keep M (2 + x * hpOf n) x (JM.stream rs) hML0
  have okF := JM.fillM_ok HM.out (2 + x * hpOf n) x (JM.stream rs)
  have hKF : (JM.fillM M (2 + x * hpOf n) x (JM.stream rs)).up = false → KM = JM.fillM M (2 + x * hpOf n) x (JM.stream rs) := fun hd => by
    rw [← hKM.out]
    unfold JM.keepM JM.markM
    rw [(write_down hd).2, (flush_down hd).2]
  rw [hKM.out] at tM tE
  obtain ⟨F, hF⟩ : ∃ F, Hid (JM.fillM M (2 + x * hpOf n) x (JM.stream rs) = F) := ⟨_, rfl⟩
  rw [hF.out] at h2 tM tE okF hKF
  rw [hF.out]
  have j2 := hj.only ho2 hjd hA
  have hR2 := hR.only ho2 (fun g hg => by have := hA2 g hg; simp at this ⊢; omega)
  have hne2 : ∀ g, A2 = some ⟨g, 0, none⟩ → g ≠ gj := fun g hg => by have := hA2 g hg; simp at this; omega
  have HKF := Lib.hid hKF
  have HTM := Lib.hid tM
  have HTE := Lib.hid tE
  have HOK := Lib.hid okF
  have hB2 := j2.d
  clear hR h hj c3 c1 hKF tM tE okF hML0
  cases hup : F.up with
  | false =>
    have he := upE_down hup
    have HK := Lib.hid (HKF.out hup)
    rw [he]
    go_wp2_with (with_reducible refine wpList_put (o := ⟨none, .store 4 (.tmp 41) (.const (.bool true)), _, _, _, _⟩) (by with_unfolding_all rfl) 4 (.tmp 41) (.const (.bool true)) (by with_unfolding_all rfl) gj 3 (by with_unfolding_all rfl) (.bool true) (by with_unfolding_all rfl) hB2 [(.bool true)] (by with_unfolding_all rfl) (by with_unfolding_all exact Try.szBo) (by with_unfolding_all simp) (by with_unfolding_all exact one_cell1 rfl) ?_)
    intro w3 hu3 hB3
    have hB3' : Blk w3 gj 118 [.pointer (some ⟨gd, 0, none⟩), .int .i64 (half : Int), .slice A l.length c, .bool true] := hB3
    have h3 := h2.only (Only.of_upd (L := [gj]) hu3 (by simp)) (by simp at hjd ⊢; omega) (by simp at hjd ⊢; omega) (by simp at hjd ⊢; omega)
    have hJ3 : JRec w3 gj gd half A c l true := ⟨hB3', j2.r.only (Only.of_upd (L := [gj]) hu3 (by simp)) (fun g hg => by simpa using j2.n g hg), j2.n⟩
    have ho3 : Only [gj, gd, gp, gm] w w3 := (ho2.mono (by simp)).trans (Only.of_upd hu3 (by simp))
    clear hB3 hu3 hB2 h2 j2 hR2 ho2
    go_wp2
    go_ret
    exact ⟨(by rw [HK.out, he]; rfl), (by rw [HK.out]; exact h3.mono (by omega)), ⟨fun hu => (by rw [HK.out, hup] at hu; cases hu), fun _ => hJ3⟩, ho3⟩
  | true =>
    have he := upE_up hup
    rw [he]
    go_wp2_with fail
    (with_reducible refine (turn_any gj half x A c l false gd gp gm (k + 40) cp Y F _ hx1 HOK.out (by omega) hjd hA h2 j2).mono ?_)
    rintro e w3 ⟨rfl, h3, ho3⟩
    rw [HTM.out] at h3
    rw [HTE.out]
    have j3 := j2.only ho3 hjd hA
    have hR3 := hR2.only ho3 (fun g hg => by have := hA2 g hg; simp at this ⊢; omega)
    have ho3' := ho2.trans ho3
    have hB3 := j3.d
    clear h2 j2 hR2 hB2 ho2 ho3
    cases hup2 : KM.up with
    | false =>
      have he2 := upE_down hup2
      rw [he2]
      go_wp2_with (with_reducible refine wpList_put (o := ⟨none, .store 4 (.tmp 41) (.const (.bool true)), _, _, _, _⟩) (by with_unfolding_all rfl) 4 (.tmp 41) (.const (.bool true)) (by with_unfolding_all rfl) gj 3 (by with_unfolding_all rfl) (.bool true) (by with_unfolding_all rfl) hB3 [(.bool true)] (by with_unfolding_all rfl) (by with_unfolding_all exact Try.szBo) (by with_unfolding_all simp) (by with_unfolding_all exact one_cell1 rfl) ?_)
      intro w4 hu4 hB4
      have hB4' : Blk w4 gj 118 [.pointer (some ⟨gd, 0, none⟩), .int .i64 (half : Int), .slice A l.length c, .bool true] := hB4
      have h4' := h3.only (Only.of_upd (L := [gj]) hu4 (by simp)) (by simp at hjd ⊢; omega) (by simp at hjd ⊢; omega) (by simp at hjd ⊢; omega)
      have hJ4 : JRec w4 gj gd half A c l true := ⟨hB4', j3.r.only (Only.of_upd (L := [gj]) hu4 (by simp)) (fun g hg => by simpa using j3.n g hg), j3.n⟩
      have ho4 : Only [gj, gd, gp, gm] w w4 := (ho3'.mono (by simp)).trans (Only.of_upd hu4 (by simp))
      clear hB4 hu4 hB3 h3 j3 hR3 ho3'
      go_wp2
      go_ret
      exact ⟨(by rw [he2]; rfl), h4', ⟨fun hu => (by rw [hup2] at hu; cases hu), fun _ => hJ4⟩, ho4⟩
    | true =>
      have he2 := upE_up hup2
      rw [he2]
      go_wp2_with (with_reducible refine wpList_put (o := ⟨none, .store 3 (.tmp 48) (.tmp 45), _, _, _, _⟩) (by with_unfolding_all rfl) 3 (.tmp 48) (.tmp 45) (by with_unfolding_all rfl) gj 1 (by with_unfolding_all rfl) (.int .i64 (x : Int)) (by with_unfolding_all rfl) hB3 [(.int .i64 (x : Int))] (by with_unfolding_all rfl) (by with_unfolding_all exact Try.sz3) (by with_unfolding_all simp) (by with_unfolding_all exact one_cell1 rfl) ?_)
      intro w4 hu4 hB4
      have hB4' : Blk w4 gj 118 [.pointer (some ⟨gd, 0, none⟩), .int .i64 (x : Int), .slice A l.length c, .bool false] := hB4
      clear hB4
      go_wp2_with (with_reducible refine wpList_put (o := ⟨none, .store 43 (.tmp 50) (.tmp 46), _, _, _, _⟩) (by with_unfolding_all rfl) 43 (.tmp 50) (.tmp 46) (by with_unfolding_all rfl) gj 2 (by with_unfolding_all rfl) (.slice A2 rs.length c2) (by with_unfolding_all rfl) hB4' [(.slice A2 rs.length c2)] (by with_unfolding_all rfl) (by with_unfolding_all exact Try.szSs) (by with_unfolding_all simp) (by with_unfolding_all exact one_cell1 rfl) ?_)
      intro w5 hu5 hB5
      have hB5' : Blk w5 gj 118 [.pointer (some ⟨gd, 0, none⟩), .int .i64 (x : Int), .slice A2 rs.length c2, .bool false] := hB5
      have ho5 : Only [gj] w3 w5 := (Only.of_upd (L := [gj]) hu4 (by simp)).trans (Only.of_upd hu5 (by simp))
      have h5 := h3.only ho5 (by simp at hjd ⊢; omega) (by simp at hjd ⊢; omega) (by simp at hjd ⊢; omega)
      have hJ5 : JRec w5 gj gd x A2 c2 rs false := ⟨hB5', hR3.only ho5 (fun g hg => by simpa using hne2 g hg), hne2⟩
      have hoz : Only [gj, gd, gp, gm] w w5 := (ho3'.mono (by simp)).trans (ho5.mono (by simp))
      clear hB5 hu4 hu5 hB4' hB3 h3 j3 hR3 ho3' ho5
      go_wp2
      go_ret
      exact ⟨(by rw [he2]; rfl), h5, ⟨fun _ => hJ5, fun hu => (by rw [hup2] at hu; cases hu)⟩, hoz⟩
end Go.Proofs.Ythgmlopkcgkjlaa

/-
  Contracts of the walks over the journal's keep, Replace and Append, in one word each: what is answered, what the disk and the record are after it. Conditions: the record, the disk and the records lie there.
-/
namespace Go.Proofs.Ythgmlopkcgkjlaa
open Go.RowKit Go.Shelf

def longIn (rs : List ByteArray) : Bool := rs.any (fun r => decide (8000 < r.size))
def canDo (n : Nat) (rs : List ByteArray) (cl : Bool) : Bool := !cl && !longIn rs && decide (JM.useR rs ≤ capOf n)
def jM (M : DM) (n half : Nat) (rs : List ByteArray) (cl : Bool) : DM := if canDo n rs cl then JM.keepM M (2 + (1 - half) * hpOf n) (1 - half) (JM.stream rs) else M
def jE (M : DM) (n half : Nat) (rs : List ByteArray) (cl : Bool) : Int := if cl then 13 else if longIn rs then 2 else if capOf n < JM.useR rs then 12 else upE (jM M n half rs cl)
def jW (M : DM) (n half : Nat) (rs : List ByteArray) (cl : Bool) : Bool := canDo n rs cl && (jM M n half rs cl).up
def jL (M : DM) (n half : Nat) (l rs : List ByteArray) (cl : Bool) : List ByteArray := if jW M n half rs cl then rs else l
def jH (M : DM) (n half : Nat) (rs : List ByteArray) (cl : Bool) : Nat := if jW M n half rs cl then 1 - half else half
def jC (M : DM) (n half : Nat) (rs : List ByteArray) (cl : Bool) : Bool := if canDo n rs cl then !(jM M n half rs cl).up else cl
/-- The program's journal with its disk. -/
structure PJ (n0 : Nat) (w : World) (gj gd gp gm cp : Nat) (Y : List Value) (half k : Nat) (A : Option Addr) (c : Nat) (M : DM) (l : List ByteArray) (cl : Bool) : Prop where
  p : PRep w gd gp gm cp Y M k
  j : JRec w gj gd half A c l cl
  o : OwnC n0 A l.length c
  al : ∀ g, A = some ⟨g, 0, none⟩ → g < w.heap.size
  dj : gj ∉ [gd, gp, gm]
  ad : ∀ g, A = some ⟨g, 0, none⟩ → g ∉ [gd, gp, gm]
theorem PJ.only {L : List Nat} {n0 : Nat} {w w' : World} {gj gd gp gm cp : Nat} {Y : List Value} {half k : Nat} {A : Option Addr} {c : Nat} {M : DM} {l : List ByteArray} {cl : Bool} (h : PJ n0 w gj gd gp gm cp Y half k A c M l cl) (ho : Only L w w') (h1 : gj ∉ L) (h2 : gd ∉ L) (h3 : gp ∉ L) (h4 : gm ∉ L) (h5 : ∀ g, A = some ⟨g, 0, none⟩ → g ∉ L) : PJ n0 w' gj gd gp gm cp Y half k A c M l cl :=
  ⟨h.p.only ho h2 h3 h4, h.j.only ho h1 h5, h.o, fun g hg => Nat.lt_of_lt_of_le (h.al g hg) ho.size, h.dj, h.ad⟩
theorem PJ.next {n0 : Nat} {w w' : World} {gj gd gp gm cp : Nat} {Y : List Value} {half k : Nat} {A : Option Addr} {c : Nat} {M : DM} {l : List ByteArray} {cl : Bool} (h : PJ n0 w gj gd gp gm cp Y half k A c M l cl) (hb : Below w.heap.size w w') : PJ n0 w' gj gd gp gm cp Y half k A c M l cl :=
  h.only (Only.of_below (L := []) hb) (by simp) (by simp) (by simp) (by simp) (fun _ _ => by simp)
theorem PJ.low {n0 n1 : Nat} {w : World} {gj gd gp gm cp : Nat} {Y : List Value} {half k : Nat} {A : Option Addr} {c : Nat} {M : DM} {l : List ByteArray} {cl : Bool} (h : PJ n1 w gj gd gp gm cp Y half k A c M l cl) (hn : n0 ≤ n1) : PJ n0 w gj gd gp gm cp Y half k A c M l cl := ⟨h.p, h.j, h.o.low hn, h.al, h.dj, h.ad⟩
/-- What a call that changes the journal leaves. -/
def AfterJ (n0 : Nat) (w w' : World) (gj gd gp gm cp : Nat) (Y : List Value) (half k : Nat) (M : DM) (n : Nat) (l rs : List ByteArray) (cl : Bool) (F : Option Addr → Prop) : Prop :=
  (∃ A' c', PJ n0 w' gj gd gp gm cp Y (jH M n half rs cl) (k + 41) A' c' (jM M n half rs cl) (jL M n half l rs cl) (jC M n half rs cl) ∧ F A') ∧ Only [gj, gd, gp, gm] w w'
/-- Where the records may lie after a call: where they lay, or in new memory. -/
def FreshA (A : Option Addr) (b : Nat) (A' : Option Addr) : Prop := ∀ g, A' = some ⟨g, 0, none⟩ → A = some ⟨g, 0, none⟩ ∨ b ≤ g
theorem FreshA.low {A A' : Option Addr} {b b' : Nat} (h : FreshA A b A') (hb : b' ≤ b) : FreshA A b' A' := fun g hg => (h g hg).imp id (Nat.le_trans hb)
theorem AfterJ.trans {n0 : Nat} {w0 w w' : World} {gj gd gp gm cp : Nat} {Y : List Value} {half k : Nat} {M : DM} {n : Nat} {l rs : List ByteArray} {cl : Bool} {F F' : Option Addr → Prop} (hb : Below w0.heap.size w0 w) (h : AfterJ n0 w w' gj gd gp gm cp Y half k M n l rs cl F) (hF : ∀ A', F A' → F' A') : AfterJ n0 w0 w' gj gd gp gm cp Y half k M n l rs cl F' := by
  obtain ⟨⟨A', c', p, f⟩, o⟩ := h
  exact ⟨⟨A', c', p, hF _ f⟩, (Only.of_below hb).trans o⟩
theorem canDo_parts {n : Nat} {rs : List ByteArray} (h : canDo n rs false = true) : longIn rs = false ∧ JM.useR rs ≤ capOf n := by
  unfold canDo at h
  simp only [Bool.not_false, Bool.true_and, Bool.and_eq_true, decide_eq_true_eq, Bool.not_eq_true'] at h
  exact h
theorem keep_any (n0 : Nat) (gj half : Nat) (A A2 : Option Addr) (c c2 : Nat) (l rs : List ByteArray) (cl : Bool) (gd gp gm k cp : Nat) (Y : List Value) (M : DM) (n : Nat) (w : World) (hh : half ≤ 1) (hM : M.ok) (hn : M.ps.length = n) (h4 : 4 ≤ n) (h40 : n ≤ 40) (hk : k ≤ 800000) (hu6 : JM.useR rs ≤ 1000000)
    (ho2 : OwnC n0 A2 rs.length c2) (hA2 : ∀ g, A2 = some ⟨g, 0, none⟩ → g ∉ [gj, gd, gp, gm]) (hA2l : ∀ g, A2 = some ⟨g, 0, none⟩ → g < w.heap.size) (hR : RowAt w A2 (rs.map Value.string)) (h : PJ n0 w gj gd gp gm cp Y half k A c M l cl) :
    Calls Try.prog 81 #[.pointer (some ⟨gj, 0, none⟩), .slice A2 rs.length c2] w fun e w' => e = .returned (.int .i64 (jE M n half rs cl)) ∧ AfterJ n0 w w' gj gd gp gm cp Y half k M n l rs cl (fun A' => A' = A ∨ A' = A2) := by
  have stay : canDo n rs cl = false → AfterJ n0 w w gj gd gp gm cp Y half k M n l rs cl (fun A' => A' = A ∨ A' = A2) := fun hc => by
    refine ⟨⟨A, c, ?_⟩, Only.refl _ _⟩
    unfold jH jM jL jC jW
    rw [hc]
    exact ⟨⟨h.p.mono (by omega), h.j, h.o, h.al, h.dj, h.ad⟩, .inl rfl⟩
  cases cl with
  | true =>
    refine (keep_closed gj gd half A A2 c c2 rs.length l w h.j).mono ?_
    rintro e w' ⟨rfl, rfl⟩
    exact ⟨by unfold jE; rfl, stay (by unfold canDo; rfl)⟩
  | false =>
    cases hlong : longIn rs with
    | true =>
      have hn6 : rs.length ≤ 1000000 := by have := JM.useR_count rs; omega
      refine (keep_long gj gd half A A2 c c2 rs.length l rs w rfl hn6 hlong hR h.j).mono ?_
      rintro e w' ⟨rfl, rfl⟩
      exact ⟨by unfold jE; rw [hlong]; rfl, stay (by unfold canDo; rw [hlong]; rfl)⟩
    | false =>
      by_cases hfull : capOf n < JM.useR rs
      · refine (keep_full gj gd half A A2 c c2 l rs gp gm k cp Y M n w hn h4 h40 hu6 hlong hfull hR h.p h.j).mono ?_
        rintro e w' ⟨rfl, rfl⟩
        exact ⟨by unfold jE; rw [hlong, if_pos hfull]; rfl, stay (by unfold canDo; rw [hlong, decide_eq_false (by omega)]; rfl)⟩
      · have hu : JM.useR rs ≤ capOf n := by omega
        have hc : canDo n rs false = true := by unfold canDo; rw [hlong, decide_eq_true hu]; rfl
        have hM2 : jM M n half rs false = JM.keepM M (2 + (1 - half) * hpOf n) (1 - half) (JM.stream rs) := by unfold jM; rw [hc]; rfl
        refine (keep_write gj half (1 - half) A A2 c c2 l rs gd gp gm k cp Y M n w hh rfl hM hn h4 h40 hk hu hlong h.dj hA2 h.ad h.al hA2l hR h.p h.j).mono ?_
        rintro e w' ⟨rfl, hp, hkj, ho⟩
        rw [← hM2] at hp hkj ⊢
        refine ⟨by unfold jE; rw [hlong, if_neg hfull]; rfl, ?_⟩
        cases hup : (jM M n half rs false).up with
        | true =>
          refine ⟨⟨A2, c2, ?_⟩, ho⟩
          have e1 : jW M n half rs false = true := by unfold jW; rw [hc, hup]; rfl
          unfold jH jL jC
          rw [e1, hc, hup]
          exact ⟨⟨hp, hkj.1 hup, ho2, fun g hg => Nat.lt_of_lt_of_le (hA2l g hg) ho.size, h.dj, fun g hg => by have := hA2 g hg; simp at this ⊢; omega⟩, .inr rfl⟩
        | false =>
          refine ⟨⟨A, c, ?_⟩, ho⟩
          have e1 : jW M n half rs false = false := by unfold jW; rw [hc, hup]; rfl
          unfold jH jL jC
          rw [e1, hc, hup]
          exact ⟨⟨hp, hkj.2 hup, h.o, fun g hg => Nat.lt_of_lt_of_le (h.al g hg) ho.size, h.dj, h.ad⟩, .inl rfl⟩
set_option maxRecDepth 100000 in
theorem replace_any (n0 : Nat) (gj half : Nat) (A B : Option Addr) (c cB : Nat) (l rs : List ByteArray) (cl : Bool) (gd gp gm k cp : Nat) (Y : List Value) (M : DM) (n : Nat) (w : World) (hh : half ≤ 1) (hM : M.ok) (hn : M.ps.length = n) (h4 : 4 ≤ n) (h40 : n ≤ 40) (hk : k ≤ 800000) (hu6 : JM.useR rs ≤ 1000000) (hn0 : n0 ≤ w.heap.size)
    (hB : RowAt w B (rs.map Value.string)) (hBo : OwnA B) (h : PJ n0 w gj gd gp gm cp Y half k A c M l cl) :
    Calls Try.prog 53 #[.pointer (some ⟨gj, 0, none⟩), .slice B rs.length cB] w fun e w' => e = .returned (.int .i64 (jE M n half rs cl)) ∧ AfterJ n0 w w' gj gd gp gm cp Y half k M n l rs cl (FreshA A w.heap.size) := by
  have hn6 : rs.length ≤ 1000000 := by have := JM.useR_count rs; omega
  have e1 := h.p.d.lt
  have e2 := h.p.p.lt
  have e3 := h.p.m.lt
  have e4 := h.j.d.lt
  go_enter Try.func53, Try.ntmps53
  go_wp2_with fail
  (with_reducible refine (sclone_any B cB rs.length rs _ rfl hn6 hB hBo).mono ?_)
  rintro e w2 ⟨v, rfl, hown, hb2⟩
  obtain ⟨A2, c2, rfl⟩ := own_shape hown
  have hoc := own_c hown
  have hnew := own_new hown
  have h2 := h.next hb2
  have hlt2 : ∀ g, A2 = some ⟨g, 0, none⟩ → g < w2.heap.size := fun g hg => (hown.lt g (by rw [hg]; rfl)).2
  clear hown hB
  go_wp2_with fail
  (with_reducible refine (keep_any n0 gj half A A2 c c2 l rs cl gd gp gm k cp Y M n _ hh hM hn h4 h40 hk hu6 (hoc.low hn0) (fun g hg => by have := hnew.2 g hg; simp; omega) hlt2 hnew.1 h2).mono ?_)
  rintro e w3 ⟨rfl, h3⟩
  have h3' := h3.trans (F' := FreshA A w.heap.size) hb2 (fun A' hF g hg => by rcases hF with rfl | rfl; exact .inl hg; exact .inr (hnew.2 g hg))
  clear h2 h3 hoc hnew hlt2
  go_wp2
  go_ret
  exact ⟨rfl, h3'⟩
end Go.Proofs.Ythgmlopkcgkjlaa

/-
  Contract of the walk over the journal's Append. Conditions: the record and the disk lie there.
-/
namespace Go.Proofs.Ythgmlopkcgkjlaa
open Go.RowKit Go.Shelf

def jN (M : DM) (n half : Nat) (l : List ByteArray) (r : ByteArray) (cl : Bool) : Nat := if jE M n half (l ++ [r]) cl = 0 then l.length else 0
set_option maxRecDepth 100000 in
set_option maxHeartbeats 1600000 in
theorem append_any (n0 : Nat) (gj half : Nat) (A : Option Addr) (c : Nat) (l : List ByteArray) (r : ByteArray) (cl : Bool) (gd gp gm k cp : Nat) (Y : List Value) (M : DM) (n : Nat) (w : World) (hh : half ≤ 1) (hM : M.ok) (hn : M.ps.length = n) (h4 : 4 ≤ n) (h40 : n ≤ 40) (hk : k ≤ 800000) (hu : JM.useR l ≤ 100000) (hr : r.size ≤ 8200) (hn0 : n0 ≤ w.heap.size)
    (h : PJ n0 w gj gd gp gm cp Y half k A c M l cl) :
    Calls Try.prog 50 #[.pointer (some ⟨gj, 0, none⟩), .string r] w fun e w' => e = .returned (.tuple #[.int .i64 (jN M n half l r cl : Nat), .int .i64 (jE M n half (l ++ [r]) cl)]) ∧ AfterJ n0 w w' gj gd gp gm cp Y half k M n l (l ++ [r]) cl (FreshA A w.heap.size) := by
  obtain ⟨i0, hi, hz0, hz1, hz2⟩ := info_parts Try.infoS
  have hu6 : JM.useR (l ++ [r]) ≤ 1000000 := by
    rw [JM.useR_append]
    have : JM.useR [r] = 2 + r.size := by simp [JM.useR]
    omega
  have hl6 : l.length ≤ 1000000 := by have := JM.useR_count l; omega
  have e1 := h.p.d.lt
  have e2 := h.p.p.lt
  have e3 := h.p.m.lt
  have e4 := h.j.d.lt
  have c2 := h.j.d.cell (k := 2) rfl
  have hcap := h.o.cap
  have hzero := h.o.zero
  have hrow := h.j.r
  obtain ⟨N, hN⟩ : ∃ N, Hid (l.length = N) := ⟨_, rfl⟩
  have HH := Lib.hid h
  obtain ⟨E, hE⟩ : ∃ E, Hid (jE M n half (l ++ [r]) cl = E) := ⟨_, rfl⟩
  obtain ⟨V, hV⟩ : ∃ V, Hid (jN M n half l r cl = V) := ⟨_, rfl⟩
  have hJN : Hid (V = if E = 0 then N else 0) := by
    have : V = if E = 0 then N else 0 := by rw [← hV.out]; unfold jN; rw [hE.out, hN.out]
    exact this
  rw [hV.out, hE.out]
  rw [hN.out] at hcap hzero c2 hl6
  have hlm : Hid ((l.map Value.string).length = N * 1) := by
    have : (l.map Value.string).length = N * 1 := by rw [List.length_map, hN.out, Nat.mul_one]
    exact this
  have hnx : Hid (l.map Value.string ++ [Value.string r] = (l ++ [r]).map Value.string) := by
    have : l.map Value.string ++ [Value.string r] = (l ++ [r]).map Value.string := by simp
    exact this
  have hln : Hid ((l ++ [r]).length = N + 1) := by
    have : (l ++ [r]).length = N + 1 := by rw [List.length_append, hN.out]; rfl
    exact this
  obtain ⟨XS, hXS⟩ : ∃ XS, Hid (l.map Value.string = XS) := ⟨_, rfl⟩
  rw [hXS.out] at hrow hlm hnx
  clear h
  go_enter Try.func50, Try.ntmps50
  go_wp2_with fail
  (with_reducible refine (clip_any A c N _ hcap hzero).mono ?_)
  rintro e w2 ⟨rfl, rfl⟩
  go_wp2_with (first | (at_builtin; refine wpList_append_grows _ rfl _ _ 43 rfl 9 i0 _ 1 16 Try.underlying43 hi hz0 hz1 hz2 rfl (by decide) A N N XS rfl (fun e => ⟨(hzero e).1, (hzero e).1⟩) hlm.out (fun b hb j u hu => by obtain ⟨g, eA, hc⟩ := hrow j u hu; rw [hb] at eA; injection eA with eA; subst eA; rw [addr_mid, Nat.zero_add]; exact ((below_new w (.cells #[.string r] 9)).cell (p := ⟨g, j, none⟩) (World.block_lt_of_cell? w _ hc)).trans hc) ⟨w.heap.size, 0, none⟩ 1 1 [.string r] rfl (by with_unfolding_all rfl) (fun j u hu => one_cellV hu) (one_cell1 rfl) (by omega) (by unfold maxLen; omega) (by omega) ?_))
  intro v3 w3 hown3 hgrow3
  rw [hnx.out] at hown3
  have hb3 : Below w.heap.size w w3 := ((Below.refl _ w).alloc (Nat.le_refl _) (.cells #[.string r] 9)).grown hgrow3 (by simp) (fun k hk => by cases hk)
  obtain ⟨A3, c3, rfl⟩ := own_shape hown3
  have hoc := own_c hown3
  have hnew := own_new hown3
  have hlt3 : ∀ g, A3 = some ⟨g, 0, none⟩ → g < w3.heap.size := fun g hg => (hown3.lt g (by rw [hg]; rfl)).2
  have h3 := HH.out.next hb3
  have hsz : w.heap.size ≤ (w.alloc (.cells #[.string r] 9)).heap.size := by simp
  have hA3 : ∀ g, A3 = some ⟨g, 0, none⟩ → g ∉ [gj, gd, gp, gm] := fun g hg => by
    have := hnew.2 g hg
    simp at this ⊢
    omega
  have hoc' : OwnC n0 A3 (l ++ [r]).length c3 := by
    rw [hln.out]
    exact hoc.low (by omega)
  have hRow3 := hnew.1
  have hnewF : Hid (∀ g, A3 = some ⟨g, 0, none⟩ → w.heap.size ≤ g) := by
    have : ∀ g, A3 = some ⟨g, 0, none⟩ → w.heap.size ≤ g := fun g hg => by have := hnew.2 g hg; omega
    exact this
  clear hown3 hgrow3 hrow hnew hoc hsz c2 hlm hnx hXS
  go_wp2_with fail
  rw [← hln.out]
  (with_reducible refine (keep_any n0 gj half A A3 c c3 l (l ++ [r]) cl gd gp gm k cp Y M n _ hh hM hn h4 h40 hk hu6 hoc' hA3 hlt3 hRow3 h3).mono ?_)
  rintro e w4 ⟨rfl, h4'⟩
  have h5 := h4'.trans (F' := FreshA A w.heap.size) hb3 (fun A' hF g hg => by rcases hF with rfl | rfl; exact .inl hg; exact .inr (hnewF.out g hg))
  rw [hE.out]
  clear h3 h4' hoc' hA3 hRow3
  by_cases h0 : E = 0
  · have hVN : N = V := by rw [hJN.out, if_pos h0]
    subst h0
    subst hVN
    go_wp2
    go_ret2
    exact ⟨rfl, h5⟩
  · have hb : (E == 0) = false := beq_eq_false_iff_ne.2 h0
    have hVN : 0 = V := by rw [hJN.out, if_neg h0]
    subst hVN
    go_wp2
    go_ret2
    exact ⟨rfl, h5⟩
end Go.Proofs.Ythgmlopkcgkjlaa

/-
  A disk that holds a journal: opened, its record and its records; what a call leaves when nothing fails. Conditions: the disk lies there.
-/
namespace Go.Proofs.Ythgmlopkcgkjlaa
open Go.RowKit Go.Shelf

set_option maxRecDepth 100000 in
set_option maxHeartbeats 1600000 in
theorem load_good2 (gj : Nat) (x : Nat) (mk : UInt8) (l : List ByteArray) (gd gp gm k cp : Nat) (Y : List Value) (M : DM) (n : Nat) (w : World) (hx : x ≤ 1) (hmk : (M.page 0).now[0]? = some mk) (hmx : halfOf mk = (x : Int)) (hst : streamR M n x = (⟨(JM.stream l).toArray⟩, 0)) (hu : JM.useR l ≤ 1000000) (h65 : ∀ r ∈ l, r.size < 65536) (hM : M.ok) (hn : M.ps.length = n) (h4 : 4 ≤ n) (h40 : n ≤ 40) (hup : M.up = true) (hjd : gj ≠ gd ∧ gj ≠ gp ∧ gj ≠ gm) (h : PRep w gd gp gm cp Y M k) (hj : JRec w gj gd 0 none 0 [] false) :
    Calls Try.prog 74 #[.pointer (some ⟨gj, 0, none⟩)] w fun e w' => e = .returned (.int .i64 0) ∧ (∃ A c, JRec w' gj gd x A c l false ∧ OwnC w.heap.size A l.length c ∧ ∀ g, A = some ⟨g, 0, none⟩ → g < w'.heap.size) ∧ Only [gj] w w' := by
  have HM := Lib.hid hM
  have hpg := Lib.hid (readUp (i := 0) hup hn (by omega))
  obtain ⟨P0, hP0⟩ : ∃ P0, (M.page 0).now = P0 := ⟨_, rfl⟩
  have hR0 : Hid (M.readS 0 = P0) := by
    have : M.readS 0 = P0 := by rw [← hP0]; exact hpg.out.1
    exact this
  have hE0 : Hid (M.readE 0 = 0) := by
    have : M.readE 0 = 0 := hpg.out.2
    exact this
  have hPl : Hid (P0.length = 128) := by
    have : P0.length = 128 := by rw [← hP0]; exact Pg.now_length (DM.page_ok hM (by omega))
    exact this
  rw [hP0] at hmk
  have E0 : ∀ h : 0 < (⟨P0.toArray⟩ : ByteArray).size, (⟨P0.toArray⟩ : ByteArray)[0]'h = mk := str_at' (by simpa using hmk)
  have HH := Lib.hid h
  have HJ := Lib.hid hj
  have c0 := hj.d.cell (k := 0) rfl
  clear hM hpg hP0 hmk
  go_enter Try.func74, Try.ntmps74
  go_wp2_with fail
  (with_reducible refine (read_any gd gp gm k cp Y M 0 P0 0 _ HM.out hR0.out hE0.out h).mono ?_)
  rintro e w2 ⟨rfl, hb2⟩
  have j2 := HJ.out.next hb2
  have c0' := j2.d.cell (k := 0) rfl
  have c1' := j2.d.cell (k := 1) rfl
  have hp0 : (0 : Nat) < P0.length := by rw [hPl.out]; omega
  clear c0 h hj
  go_wp2_with fail
  (with_reducible refine (mark_index mk _).mono ?_)
  rintro e w2' ⟨rfl, hw22⟩
  subst hw22
  rw [hmx]
  have hB2 := j2.d
  clear E0 hmx c0' c1' j2
  go_wp2_with (with_reducible refine wpList_put (o := ⟨none, .store 3 (.tmp 24) (.tmp 22), _, _, _, _⟩) (by with_unfolding_all rfl) 3 (.tmp 24) (.tmp 22) (by with_unfolding_all rfl) gj 1 (by with_unfolding_all rfl) (.int .i64 (x : Int)) (by with_unfolding_all rfl) hB2 [(.int .i64 (x : Int))] (by with_unfolding_all rfl) (by with_unfolding_all exact Try.sz3) (by with_unfolding_all simp) (by with_unfolding_all exact one_cell1 rfl) ?_)
  intro w3 hu3 hB3
  have hB3' : Blk w3 gj 118 [.pointer (some ⟨gd, 0, none⟩), .int .i64 (x : Int), .slice none 0 0, .bool false] := hB3
  have ho3 : Only [gj] w w3 := (Only.of_below hb2).trans (Only.of_upd hu3 (by simp))
  have h3 := HH.out.only ho3 (by simp; omega) (by simp; omega) (by simp; omega)
  have j3 : JRec w3 gj gd x none 0 [] false := ⟨hB3', fun k u hu => (by cases hu), fun g hg => (by cases hg)⟩
  have d0 := hB3'.cell (k := 0) rfl
  have d1 := hB3'.cell (k := 1) rfl
  have hx0 : (0 : Int) ≤ (x : Int) := by omega
  clear hB2 hB3 hu3 hb2
  go_wp2_with fail
  (with_reducible refine (stream_any gj x none 0 [] false gd gp gm k cp Y M n _ hx HM.out hn h4 h40 hup h3 j3).mono ?_)
  rintro e w4 ⟨rfl, hb4⟩
  rw [hst]
  have hB4 := hB3'.next hb4 hB3'.lt
  have ho4 := ho3.trans (Only.of_below hb4)
  clear hB3' ho3 h3 j3 d0 d1 hb4
  go_wp2_with fail
  (with_reducible refine (cut_any l _ _ (by simp) hu h65).mono ?_)
  rintro e w5 ⟨v, rfl, hown, hb5⟩
  obtain ⟨A, c, rfl⟩ := own_shape hown
  have hB5 := hB4.next hb5 hB4.lt
  have ho5 := ho4.trans (Only.of_below hb5)
  have hal5 : ∀ g, A = some ⟨g, 0, none⟩ → g < w5.heap.size := fun g hg => (hown.lt g (by rw [hg]; rfl)).2
  have hOA := (own_c hown).low ho4.size
  have hlt4 := hB4.lt
  clear hB4 ho4 hb5
  go_wp2_with (with_reducible refine wpList_put (o := ⟨none, .store 43 (.tmp 48) (.tmp 46), _, _, _, _⟩) (by with_unfolding_all rfl) 43 (.tmp 48) (.tmp 46) (by with_unfolding_all rfl) gj 2 (by with_unfolding_all rfl) (.slice A l.length c) (by with_unfolding_all rfl) hB5 [(.slice A l.length c)] (by with_unfolding_all rfl) (by with_unfolding_all exact Try.szSs) (by with_unfolding_all simp) (by with_unfolding_all exact one_cell1 rfl) ?_)
  intro w6 hu6 hB6
  have hB6' : Blk w6 gj 118 [.pointer (some ⟨gd, 0, none⟩), .int .i64 (x : Int), .slice A l.length c, .bool false] := hB6
  have ho6 := ho5.trans (Only.of_upd hu6 (by simp))
  have hne : ∀ g, A = some ⟨g, 0, none⟩ → g ≠ gj := fun g e hg => by
    have := (own_new hown).2 g e
    omega
  have hR6 : RowAt w6 A (l.map Value.string) := (own_new hown).1.only (Only.of_upd (L := [gj]) hu6 (by simp)) (fun g e hg => hne g e (by simpa using hg))
  have hJ6 : JRec w6 gj gd x A c l false := ⟨hB6', hR6, hne⟩
  have hal6 : ∀ g, A = some ⟨g, 0, none⟩ → g < w6.heap.size := fun g hg => by have := hal5 g hg; have := hu6.size; omega
  clear hB5 hown hB6 hu6 ho5 hB6' hR6 hne
  go_wp2
  go_ret
  exact ⟨rfl, ⟨A, c, hJ6, hOA, hal6⟩, ho6⟩
set_option maxRecDepth 100000 in
set_option maxHeartbeats 1600000 in
theorem open_good2 (x : Nat) (mk : UInt8) (l : List ByteArray) (gd gp gm k cp : Nat) (Y : List Value) (M : DM) (n : Nat) (w : World) (hx : x ≤ 1) (hmk : (M.page 0).now[0]? = some mk) (hmx : halfOf mk = (x : Int)) (hst : streamR M n x = (⟨(JM.stream l).toArray⟩, 0)) (hu : JM.useR l ≤ 1000000) (h65 : ∀ r ∈ l, r.size < 65536) (hM : M.ok) (hn : M.ps.length = n) (h4 : 4 ≤ n) (h40 : n ≤ 40) (hup : M.up = true) (h : PRep w gd gp gm cp Y M k) :
    Calls Try.prog 37 #[.pointer (some ⟨gd, 0, none⟩)] w fun e w' => ∃ gj A c, e = .returned (.tuple #[.pointer (some ⟨gj, 0, none⟩), .int .i64 0]) ∧ JRec w' gj gd x A c l false ∧ OwnC w.heap.size A l.length c ∧ (∀ g, A = some ⟨g, 0, none⟩ → g < w'.heap.size) ∧ w.heap.size ≤ gj ∧ Below w.heap.size w w' := by
  have HH := Lib.hid h
  have h4i : (4 : Int) ≤ (n : Int) := by omega
  go_enter Try.func37, Try.ntmps37
  go_wp2_with fail
  (with_reducible refine (len_any gd gp gm k cp Y M _ h).mono ?_)
  rintro e w' ⟨rfl, rfl⟩
  rw [hn]
  clear h
  go_wp2_with fail
  obtain ⟨gj, hgj⟩ : ∃ gj, Hid (w.heap.size = gj) := ⟨_, rfl⟩
  have hB1 := blk_new w 118 [.pointer (some ⟨gd, 0, none⟩), .int .i64 0, .slice none 0 0, .bool false]
  have hb1 := below_new w (.cells #[.pointer (some ⟨gd, 0, none⟩), .int .i64 0, .slice none 0 0, .bool false] 118)
  have h1 := HH.out.next hb1
  obtain ⟨w1, hw1⟩ : ∃ w1, Hid (w.alloc (.cells #[.pointer (some ⟨gd, 0, none⟩), .int .i64 0, .slice none 0 0, .bool false] 118) = w1) := ⟨_, rfl⟩
  have hB1' : Blk w1 gj 118 [.pointer (some ⟨gd, 0, none⟩), .int .i64 0, .slice none 0 0, .bool false] := by rw [← hw1.out, ← hgj.out]; exact hB1
  rw [hw1.out] at hb1 h1
  rw [hw1.out, hgj.out]
  have j1 : JRec w1 gj gd 0 none 0 [] false := ⟨hB1', fun k u hu => (by cases hu), fun g hg => (by cases hg)⟩
  have hle : Hid (w.heap.size ≤ gj) := by
    have : w.heap.size ≤ gj := Nat.le_of_eq hgj.out
    exact this
  have hjd : gj ≠ gd ∧ gj ≠ gp ∧ gj ≠ gm := by
    have e1 := HH.out.d.lt
    have e2 := HH.out.p.lt
    have e3 := HH.out.m.lt
    have := hle.out
    omega
  have HB := Lib.hid hb1
  clear hB1 hB1' hb1
  (with_reducible refine (load_good2 gj x mk l gd gp gm k cp Y M n _ hx hmk hmx hst hu h65 hM hn h4 h40 hup hjd h1 j1).mono ?_)
  rintro e w2 ⟨rfl, ⟨A, c, j2, hA, hal⟩, ho2⟩
  have hb2 := below_only HB.out ho2 (by simpa using hle.out) HB.out.size
  clear h1 j1 ho2 hjd hmk hmx hst
  go_wp2
  go_ret2
  exact ⟨gj, A, c, rfl, j2, hA.low HB.out.size, hal, hle.out, hb2⟩
/-- The disk is up, nothing is pending, and it holds the records l in its half h. -/
structure JSt (M : DM) (n h : Nat) (l : List ByteArray) : Prop where
  ok : M.ok
  len : M.ps.length = n
  clean : Clean M
  up : M.up = true
  d : JDc (fun i => (M.page i).old) n h l
  h1 : h ≤ 1
  use : JM.useR l ≤ capOf n
  big : longIn l = false
theorem JSt.trip {M : DM} {n h : Nat} {l : List ByteArray} (s : JSt M n h l) {t : Int} (h1 : -9223372036854775808 ≤ t) (h2 : t ≤ 9223372036854775807) : JSt (M.tripTo t) n h l :=
  ⟨DM.tripTo_ok s.ok ⟨h1, h2⟩, s.len, s.clean, s.up, s.d, s.h1, s.use, s.big⟩
theorem JSt.size {M : DM} {n h : Nat} {l : List ByteArray} (s : JSt M n h l) : ∀ r ∈ l, r.size ≤ 8000 := fun r hr => by
  have h := s.big
  unfold longIn at h
  have := List.any_eq_false.1 h r hr
  simpa using this
theorem JSt.read {M : DM} {n h : Nat} {l : List ByteArray} (s : JSt M n h l) (h40 : n ≤ 40) (h4 : 4 ≤ n) : ∃ mk, (M.page 0).now[0]? = some mk ∧ halfOf mk = (h : Int) ∧ streamR M n h = (⟨(JM.stream l).toArray⟩, 0) := by
  have hS : (JM.stream l).length ≤ capOf n := by rw [JM.stream_length]; exact s.use
  have hl1 := (DM.page_ok s.ok (i := 1) (by have := s.len; omega)).1
  refine ⟨if h = 0 then 0 else 255, by rw [now_clean (s.clean 0)]; exact s.d.mark, ?_, streamR_good hS h40 ?_ ?_⟩
  · rcases (by have := s.h1; omega : h = 0 ∨ h = 1) with rfl | rfl <;> decide
  · unfold headAt
    rw [now_clean (s.clean 1)]
    apply List.ext_getElem?
    intro i
    have h1 := s.h1
    rw [List.getElem?_take]
    by_cases hi : i < 16
    · rw [if_pos hi, List.getElem?_drop]
      exact s.d.head i hi
    · rw [if_neg hi, List.getElem?_eq_none (by rw [JM.headB_length]; omega)]
  · intro j hj
    rw [now_clean (s.clean _)]
    exact s.d.body j hj
theorem open_jst (n0 : Nat) (h : Nat) (l : List ByteArray) (gd gp gm k cp : Nat) (Y : List Value) (M : DM) (n : Nat) (w : World) (s : JSt M n h l) (h4 : 4 ≤ n) (h40 : n ≤ 40) (hn0 : n0 ≤ w.heap.size) (hp : PRep w gd gp gm cp Y M k) :
    Calls Try.prog 37 #[.pointer (some ⟨gd, 0, none⟩)] w fun e w' => ∃ gj A c, e = .returned (.tuple #[.pointer (some ⟨gj, 0, none⟩), .int .i64 0]) ∧ PJ n0 w' gj gd gp gm cp Y h k A c M l false ∧ w.heap.size ≤ gj ∧ (∀ g, A = some ⟨g, 0, none⟩ → w.heap.size ≤ g) ∧ Below w.heap.size w w' := by
  obtain ⟨mk, e1, e2, e3⟩ := s.read h40 h4
  have hcb : capOf n ≤ 2432 := by unfold capOf; omega
  have d1 := hp.d.lt
  have d2 := hp.p.lt
  have d3 := hp.m.lt
  refine (open_good2 h mk l gd gp gm k cp Y M n w s.h1 e1 e2 e3 (by have := s.use; omega) (fun r hr => by have := s.size r hr; omega) s.ok s.len h4 h40 s.up hp).mono ?_
  rintro e w' ⟨gj, A, c, rfl, hj, ho, hal, hle, hb⟩
  exact ⟨gj, A, c, rfl, ⟨hp.next hb, hj, ho.low hn0, hal, by simp; omega, fun g hg => by have := ho.lo g hg; simp; omega⟩, hle, ho.lo, hb⟩
theorem step_free {M : DM} (ht : M.trip = -1) : M.step = M := by
  unfold DM.step
  rw [if_neg (by omega), if_pos ht]
theorem write_free {M : DM} (ht : M.trip = -1) (hu : M.up = true) (i a : Int) (s : List UInt8) : (M.write i a s).up = true ∧ (M.write i a s).trip = -1 := by
  unfold DM.write
  rw [hu, step_free ht, hu]
  simp only [if_true]
  split
  · exact ⟨hu, ht⟩
  · exact ⟨hu, ht⟩
theorem flush_free {M : DM} (ht : M.trip = -1) (hu : M.up = true) : M.flush.up = true ∧ M.flush.trip = -1 := by
  unfold DM.flush
  rw [hu, step_free ht, hu]
  exact ⟨hu, ht⟩
theorem keep_free {M : DM} (ht : M.trip = -1) (hu : M.up = true) (f x : Nat) (S : List UInt8) : (JM.keepM M f x S).up = true ∧ (JM.keepM M f x S).trip = -1 := by
  have hf : ∀ j, (JM.fillTo M f S j).up = true ∧ (JM.fillTo M f S j).trip = -1 := fun j => by
    induction j with
    | zero => exact ⟨hu, ht⟩
    | succ j ih => exact write_free ih.2 ih.1 _ _ _
  have h1 := hf (JM.pcs S)
  have h2 := write_free h1.2 h1.1 1 ((x * 16 : Nat) : Int) (JM.headB S.length (JM.sumF 0 S))
  have h3 := flush_free h2.2 h2.1
  have h4 := write_free h3.2 h3.1 0 0 (JM.markL x)
  exact flush_free h4.2 h4.1
theorem jst_keep {M : DM} {n h : Nat} {l rs : List ByteArray} (s : JSt M n h l) (h4 : 4 ≤ n) (hc : canDo n rs false = true) (hu : (jM M n h rs false).up = true) : JSt (jM M n h rs false) n (1 - h) rs := by
  obtain ⟨hb, hus⟩ := canDo_parts hc
  have e : jM M n h rs false = JM.keepM M (2 + (1 - h) * hpOf n) (1 - h) (JM.stream rs) := by unfold jM; rw [hc]; rfl
  rw [e] at hu ⊢
  obtain ⟨c1, d1⟩ := keep_done (x := 1 - h) s.ok s.clean s.len h4 (by omega) hus hu
  exact ⟨JM.keepM_ok s.ok _ _ _, by rw [JM.keepM_len]; exact s.len, c1, hu, d1, by omega, hus, hb⟩
/-- A call on a disk that does not fail. -/
theorem jst_free {M : DM} {n h : Nat} {l rs : List ByteArray} (s : JSt M n h l) (h4 : 4 ≤ n) (ht : M.trip = -1) :
    JSt (jM M n h rs false) n (jH M n h rs false) (jL M n h l rs false) ∧ (jM M n h rs false).trip = -1 ∧ jC M n h rs false = false ∧ jE M n h rs false = (if longIn rs then 2 else if capOf n < JM.useR rs then 12 else 0) ∧ jL M n h l rs false = (if longIn rs then l else if capOf n < JM.useR rs then l else rs) := by
  cases hc : canDo n rs false with
  | true =>
    obtain ⟨hb, hus⟩ := canDo_parts hc
    have e : jM M n h rs false = JM.keepM M (2 + (1 - h) * hpOf n) (1 - h) (JM.stream rs) := by unfold jM; rw [hc]; rfl
    obtain ⟨hu, htk⟩ := keep_free ht s.up (2 + (1 - h) * hpOf n) (1 - h) (JM.stream rs)
    rw [← e] at hu htk
    have hw : jW M n h rs false = true := by unfold jW; rw [hc, hu]; rfl
    have hj := jst_keep s h4 hc hu
    have hnf : ¬ capOf n < JM.useR rs := by omega
    have e1 : jH M n h rs false = 1 - h := by unfold jH; rw [hw]; rfl
    have e2 : jL M n h l rs false = rs := by unfold jL; rw [hw]; rfl
    have e3 : jC M n h rs false = false := by unfold jC; rw [hc, hu]; rfl
    have e4 : jE M n h rs false = 0 := by
      unfold jE
      rw [hb, if_neg hnf, upE_up hu]; rfl
    rw [e1, e2, e3, e4, hb, if_neg hnf, if_neg hnf]
    exact ⟨hj, htk, rfl, rfl, rfl⟩
  | false =>
    have e : jM M n h rs false = M := by unfold jM; rw [hc]; rfl
    have hw : jW M n h rs false = false := by unfold jW; rw [hc]; rfl
    unfold jH jL jC jE
    rw [hw, hc, e]
    refine ⟨s, ht, rfl, ?_, ?_⟩
    · cases hb : longIn rs with
      | true => rfl
      | false =>
        by_cases hf : capOf n < JM.useR rs
        · rw [if_pos hf, if_pos hf]; rfl
        · unfold canDo at hc
          rw [hb, decide_eq_true (show JM.useR rs ≤ capOf n by omega)] at hc
          cases hc
    · cases hb : longIn rs with
      | true => rfl
      | false =>
        by_cases hf : capOf n < JM.useR rs
        · rw [if_pos hf]; rfl
        · unfold canDo at hc
          rw [hb, decide_eq_true (show JM.useR rs ≤ capOf n by omega)] at hc
          cases hc
theorem long_snoc {l : List ByteArray} {r : ByteArray} (h : longIn l = false) : longIn (l ++ [r]) = decide (8000 < r.size) := by
  unfold longIn at h ⊢
  rw [List.any_append, h]
  simp
theorem use_snoc (l : List ByteArray) (r : ByteArray) : JM.useR (l ++ [r]) = JM.useR l + 2 + r.size := by
  rw [JM.useR_append]
  show _ + (2 + r.size + 0) = _
  omega
end Go.Proofs.Ythgmlopkcgkjlaa

/-
  Contracts of the walks over the laws' open, fresh and do. Conditions: the disk and the record lie there.
-/
namespace Go.Proofs.Ythgmlopkcgkjlaa
open Go.RowKit Go.Shelf

theorem openlaw_any (n0 : Nat) (h : Nat) (l : List ByteArray) (gd gp gm k cp : Nat) (Y : List Value) (M : DM) (n : Nat) (w : World) (s : JSt M n h l) (h4 : 4 ≤ n) (h40 : n ≤ 40) (hn0 : n0 ≤ w.heap.size) (hp : PRep w gd gp gm cp Y M k) :
    Calls Try.prog 51 #[.pointer (some ⟨gd, 0, none⟩)] w fun e w' => ∃ gj A c, e = .returned (.tuple #[.pointer (some ⟨gj, 0, none⟩), .bool true]) ∧ PJ n0 w' gj gd gp gm cp Y h k A c M l false ∧ w.heap.size ≤ gj ∧ (∀ g, A = some ⟨g, 0, none⟩ → w.heap.size ≤ g) ∧ Below w.heap.size w w' := by
  go_enter Try.func51, Try.ntmps51
  go_wp2_with fail
  (with_reducible refine (open_jst n0 h l gd gp gm k cp Y M n _ s h4 h40 hn0 hp).mono ?_)
  rintro e w' ⟨gj, A, c, rfl, hj, hle, hlo, hb⟩
  go_wp2
  go_ret2
  exact ⟨gj, A, c, rfl, hj, hle, hlo, hb⟩
theorem page_make {n i : Nat} (h : i < n) : (DM.make n).page i = ⟨Z128, none⟩ := by
  unfold DM.page DM.make
  rw [List.getD_eq_getElem?_getD, List.getElem?_replicate, if_pos h]; rfl
theorem jst_make {n : Nat} (h4 : 4 ≤ n) (h40 : n ≤ 40) : JSt (DM.make n) n 0 [] := by
  have hlen : (DM.make n).ps.length = n := List.length_replicate
  refine ⟨DM.make_ok (by omega), hlen, fun i => ?_, rfl, ⟨?_, fun i hi => ?_, fun j hj => (by simp [JM.stream] at hj)⟩, by omega, Nat.zero_le _, rfl⟩
  · by_cases hi : i < n
    · rw [page_make hi]
    · rw [page_out (by omega)]
  · show ((DM.make n).page 0).old[0]? = _
    rw [page_make (by omega)]; rfl
  · show ((DM.make n).page 1).old[0 * 16 + i]? = _
    rw [page_make (by omega)]
    have e : JM.headB (JM.stream []).length (JM.sumF 0 (JM.stream [])) = List.replicate 16 0 := headB_zero
    rw [e]
    show (List.replicate 128 0)[0 * 16 + i]? = _
    rw [List.getElem?_replicate, List.getElem?_replicate, if_pos (by omega), if_pos hi]
theorem fresh_any (n0 n : Nat) (w : World) (h4 : 4 ≤ n) (h40 : n ≤ 40) (hn0 : n0 ≤ w.heap.size) :
    Calls Try.prog 48 #[.int .i64 (n : Int)] w fun e w' => ∃ gd gp gm gj A c, e = .returned (.tuple #[.pointer (some ⟨gd, 0, none⟩), .pointer (some ⟨gj, 0, none⟩), .bool true]) ∧ PJ n0 w' gj gd gp gm n [] 0 0 A c (DM.make n) [] false ∧ (n0 ≤ gj ∧ n0 ≤ gd ∧ n0 ≤ gp ∧ n0 ≤ gm) ∧ Below w.heap.size w w' := by
  go_enter Try.func48, Try.ntmps48
  go_wp2_with fail
  (with_reducible refine (new_any n _ (by omega) (by omega)).mono ?_)
  rintro e w2 ⟨gd, gp, gm, rfl, hp, hb, l1, l2, l3⟩
  have hsz := hb.size
  go_wp2_with fail
  (with_reducible refine (openlaw_any n0 0 [] gd gp gm 0 n [] (DM.make n) n _ (jst_make h4 h40) h4 h40 (by omega) hp).mono ?_)
  rintro e w3 ⟨gj, A, c, rfl, hj, hle, _, hb3⟩
  have hb' := below_join hb hb3
  clear hp hb3
  go_wp2
  go_ret3
  exact ⟨gd, gp, gm, gj, A, c, rfl, hj, ⟨by omega, by omega, by omega, by omega⟩, hb'⟩
set_option maxRecDepth 100000 in
set_option maxHeartbeats 800000 in
theorem do_append (n0 : Nat) (gj half : Nat) (A : Option Addr) (c : Nat) (l : List ByteArray) (cl : Bool) (gd gp gm k cp : Nat) (Y : List Value) (M : DM) (N : Nat) (n kk : Int) (fill : UInt8) (r : ByteArray) (w : World) (hn82 : n ≤ 8200) (hr : (⟨1, n, kk, fill⟩ : OpJ).text = r) (hh : half ≤ 1) (hM : M.ok) (hn : M.ps.length = N) (h4 : 4 ≤ N) (h40 : N ≤ 40) (hk : k ≤ 800000) (hu : JM.useR l ≤ 100000) (hn0 : n0 ≤ w.heap.size) (h : PJ n0 w gj gd gp gm cp Y half k A c M l cl) :
    Calls Try.prog 39 #[.pointer (some ⟨gd, 0, none⟩), .pointer (some ⟨gj, 0, none⟩), .agg #[.int .i64 1, .int .i64 n, .int .i64 kk, .int .u8 (fill.toNat : Int)]] w fun e w' => e = .returned (.tuple #[.pointer (some ⟨gj, 0, none⟩), .int .i64 (jN M N half l r cl : Nat), .int .i64 (jE M N half (l ++ [r]) cl)]) ∧ AfterJ n0 w w' gj gd gp gm cp Y half k M N l (l ++ [r]) cl (FreshA A w.heap.size) := by
  have HH := Lib.hid h
  have hun := Try.underlying75
  have hst8 : r.size ≤ 8200 := by
    have h2 := text_size ⟨1, n, kk, fill⟩
    rw [hr] at h2
    have h3 : r.size = n.toNat := h2
    omega
  have HR := Lib.hid hr
  clear h hr
  go_enter Try.func39, Try.ntmps39
  go_wp2_with (with_reducible refine wpList_box (o := ⟨some 5, .box 75 (.tmp 2), _, _, _, _⟩) ?g2 75 (.tmp 2) ?o2 (.agg #[.int .i64 1, .int .i64 n, .int .i64 kk, .int .u8 (fill.toNat : Int)]) [.int .i64 1, .int .i64 n, .int .i64 kk, .int .u8 (fill.toNat : Int)] ?x2 ?c2 ?_)
  try (case g2 => rfl)
  try (case o2 => rfl)
  try (case x2 => rfl)
  try (case c2 => rfl)
  intro gb w1 hgb hs1 hb1 hB1
  have hbel : Below w.heap.size w w1 := hb1.mono (Nat.le_of_eq hgb.out.symm)
  have hB1' : Blk w1 gb 75 [.int .i64 1, .int .i64 n, .int .i64 kk, .int .u8 (fill.toNat : Int)] := hB1
  have k0 := hB1'.cell (k := 0) rfl
  have h1 := HH.out.next hbel
  clear hb1 hB1 hgb hs1
  go_wp2_with (first | (with_reducible refine wpList_get (o := ⟨some 19, .load 75 (.tmp 5), _, _, _, _⟩) (by with_unfolding_all rfl) 75 (.tmp 5) (by with_unfolding_all rfl) gb 0 (by with_unfolding_all rfl) hB1' [.int .i64 1, .int .i64 n, .int .i64 kk, .int .u8 (fill.toNat : Int)] (cs_all _) _ (by with_unfolding_all exact hun) (by with_unfolding_all rfl) (by with_unfolding_all exact Try.sizeJ) ?_) | fail)
  go_wp2_with fail
  (with_reducible refine (text_any 1 n kk fill r _ hn82 HR.out).mono ?_)
  rintro e w2 ⟨rfl, hb2⟩
  have h2 := h1.next hb2
  have hbel2 := below_join hbel hb2
  have hsz := hbel2.size
  clear h1 hb2 k0 hB1'
  go_wp2_with fail
  (with_reducible refine (append_any n0 gj half A c l r cl gd gp gm k cp Y M N _ hh hM hn h4 h40 hk hu hst8 (by omega) h2).mono ?_)
  rintro e w3 ⟨rfl, h3⟩
  have h3' := h3.trans (F' := FreshA A w.heap.size) hbel2 (fun A' hF => hF.low hbel2.size)
  clear h2 h3
  go_wp2
  go_ret3
  exact ⟨rfl, h3'⟩
set_option maxRecDepth 100000 in
set_option maxHeartbeats 800000 in
theorem do_replace (n0 : Nat) (gj half : Nat) (A : Option Addr) (c : Nat) (l : List ByteArray) (cl : Bool) (gd gp gm k cp : Nat) (Y : List Value) (M : DM) (N : Nat) (n kk : Int) (fill : UInt8) (w : World) (hn82 : n ≤ 8200) (hk20 : kk ≤ 20) (hh : half ≤ 1) (hM : M.ok) (hn : M.ps.length = N) (h4 : 4 ≤ N) (h40 : N ≤ 40) (hk : k ≤ 800000) (hn0 : n0 ≤ w.heap.size) (h : PJ n0 w gj gd gp gm cp Y half k A c M l cl) :
    Calls Try.prog 39 #[.pointer (some ⟨gd, 0, none⟩), .pointer (some ⟨gj, 0, none⟩), .agg #[.int .i64 2, .int .i64 n, .int .i64 kk, .int .u8 (fill.toNat : Int)]] w fun e w' => e = .returned (.tuple #[.pointer (some ⟨gj, 0, none⟩), .int .i64 0, .int .i64 (jE M N half (⟨2, n, kk, fill⟩ : OpJ).texts cl)]) ∧ AfterJ n0 w w' gj gd gp gm cp Y half k M N l (⟨2, n, kk, fill⟩ : OpJ).texts cl (FreshA A w.heap.size) := by
  have HH := Lib.hid h
  have hun := Try.underlying75
  have htu := texts_use (x := ⟨2, n, kk, fill⟩) hn82 hk20
  obtain ⟨T, hT⟩ : ∃ T, Hid ((⟨2, n, kk, fill⟩ : OpJ).texts = T) := ⟨_, rfl⟩
  rw [hT.out] at htu ⊢
  clear h
  go_enter Try.func39, Try.ntmps39
  go_wp2_with (with_reducible refine wpList_box (o := ⟨some 5, .box 75 (.tmp 2), _, _, _, _⟩) ?g2 75 (.tmp 2) ?o2 (.agg #[.int .i64 2, .int .i64 n, .int .i64 kk, .int .u8 (fill.toNat : Int)]) [.int .i64 2, .int .i64 n, .int .i64 kk, .int .u8 (fill.toNat : Int)] ?x2 ?c2 ?_)
  try (case g2 => rfl)
  try (case o2 => rfl)
  try (case x2 => rfl)
  try (case c2 => rfl)
  intro gb w1 hgb hs1 hb1 hB1
  have hbel : Below w.heap.size w w1 := hb1.mono (Nat.le_of_eq hgb.out.symm)
  have hB1' : Blk w1 gb 75 [.int .i64 2, .int .i64 n, .int .i64 kk, .int .u8 (fill.toNat : Int)] := hB1
  have k0 := hB1'.cell (k := 0) rfl
  have h1 := HH.out.next hbel
  clear hb1 hB1 hgb hs1
  go_wp2_with (first | (with_reducible refine wpList_get (o := ⟨some 31, .load 75 (.tmp 5), _, _, _, _⟩) (by with_unfolding_all rfl) 75 (.tmp 5) (by with_unfolding_all rfl) gb 0 (by with_unfolding_all rfl) hB1' [.int .i64 2, .int .i64 n, .int .i64 kk, .int .u8 (fill.toNat : Int)] (cs_all _) _ (by with_unfolding_all exact hun) (by with_unfolding_all rfl) (by with_unfolding_all exact Try.sizeJ) ?_) | fail)
  go_wp2_with fail
  (with_reducible refine (texts_any 2 n kk fill _ hn82 hk20).mono ?_)
  rintro e w2 ⟨v, rfl, hown2, hb2⟩
  rw [hT.out] at hown2
  obtain ⟨A2, c2, rfl⟩ := own_shape hown2
  have hl2 := own_new hown2
  have hoA := own_addr hown2
  have h2 := h1.next hb2
  have hbel2 := below_join hbel hb2
  have hsz := hbel2.size
  have hlT : T.length = kk.toNat := by rw [← hT.out]; unfold OpJ.texts; rw [List.length_replicate]
  clear h1 hb2 k0 hB1' hown2
  go_wp2_with fail
  rw [← hlT]
  (with_reducible refine (replace_any n0 gj half A A2 c c2 l T cl gd gp gm k cp Y M N _ hh hM hn h4 h40 hk (by omega) (by omega) hl2.1 hoA h2).mono ?_)
  rintro e w3 ⟨rfl, h3⟩
  have h3' := h3.trans (F' := FreshA A w.heap.size) hbel2 (fun A' hF => hF.low hbel2.size)
  clear h2 h3
  go_wp2
  go_ret3
  exact ⟨rfl, h3'⟩
set_option maxRecDepth 100000 in
set_option maxHeartbeats 800000 in
theorem do_open (n0 : Nat) (gj half : Nat) (A : Option Addr) (c : Nat) (l : List ByteArray) (gd gp gm k cp : Nat) (Y : List Value) (M : DM) (N : Nat) (n kk : Int) (fill : UInt8) (w : World) (s : JSt M N half l) (h4 : 4 ≤ N) (h40 : N ≤ 40) (hn0 : n0 ≤ w.heap.size) (h : PJ n0 w gj gd gp gm cp Y half k A c M l false) :
    Calls Try.prog 39 #[.pointer (some ⟨gd, 0, none⟩), .pointer (some ⟨gj, 0, none⟩), .agg #[.int .i64 3, .int .i64 n, .int .i64 kk, .int .u8 (fill.toNat : Int)]] w fun e w' => ∃ gj' A' c', e = .returned (.tuple #[.pointer (some ⟨gj', 0, none⟩), .int .i64 0, .int .i64 0]) ∧ PJ n0 w' gj' gd gp gm cp Y half k A' c' M l false ∧ w.heap.size ≤ gj' ∧ (∀ g, A' = some ⟨g, 0, none⟩ → w.heap.size ≤ g) ∧ Below w.heap.size w w' := by
  have HH := Lib.hid h
  clear h
  go_enter Try.func39, Try.ntmps39
  go_wp2_with (with_reducible refine wpList_box (o := ⟨some 5, .box 75 (.tmp 2), _, _, _, _⟩) ?g2 75 (.tmp 2) ?o2 (.agg #[.int .i64 3, .int .i64 n, .int .i64 kk, .int .u8 (fill.toNat : Int)]) [.int .i64 3, .int .i64 n, .int .i64 kk, .int .u8 (fill.toNat : Int)] ?x2 ?c2 ?_)
  try (case g2 => rfl)
  try (case o2 => rfl)
  try (case x2 => rfl)
  try (case c2 => rfl)
  intro gb w1 hgb hs1 hb1 hB1
  have hbel : Below w.heap.size w w1 := hb1.mono (Nat.le_of_eq hgb.out.symm)
  have hB1' : Blk w1 gb 75 [.int .i64 3, .int .i64 n, .int .i64 kk, .int .u8 (fill.toNat : Int)] := hB1
  have k0 := hB1'.cell (k := 0) rfl
  have h1 := HH.out.next hbel
  clear hb1 hB1 hgb hs1
  have hsz := hbel.size
  go_wp2_with fail
  (with_reducible refine (open_jst n0 half l gd gp gm k cp Y M N _ s h4 h40 (by omega) h1.p).mono ?_)
  rintro e w2 ⟨gj', A', c', rfl, hj, hle, hlo, hb⟩
  have hb' := below_join hbel hb
  clear h1 hb k0 hB1'
  go_wp2
  go_ret3
  exact ⟨gj', A', c', rfl, hj, by omega, fun g hg => by have := hlo g hg; omega, hb'⟩
theorem do_none (n0 : Nat) (gj half : Nat) (A : Option Addr) (c : Nat) (l : List ByteArray) (cl : Bool) (gd gp gm k cp : Nat) (Y : List Value) (M : DM) (kind n kk : Int) (fill : UInt8) (w : World) (h1 : kind ≠ 1) (h2 : kind ≠ 2) (h3 : kind ≠ 3) (h : PJ n0 w gj gd gp gm cp Y half k A c M l cl) :
    Calls Try.prog 39 #[.pointer (some ⟨gd, 0, none⟩), .pointer (some ⟨gj, 0, none⟩), .agg #[.int .i64 kind, .int .i64 n, .int .i64 kk, .int .u8 (fill.toNat : Int)]] w fun e w' => e = .returned (.tuple #[.pointer (some ⟨gj, 0, none⟩), .int .i64 0, .int .i64 0]) ∧ PJ n0 w' gj gd gp gm cp Y half k A c M l cl ∧ Below w.heap.size w w' := by
  have HH := Lib.hid h
  have e1 : (kind == 1) = false := beq_eq_false_iff_ne.2 h1
  have e2 : (kind == 2) = false := beq_eq_false_iff_ne.2 h2
  have e3 : (kind == 3) = false := beq_eq_false_iff_ne.2 h3
  clear h h1 h2 h3
  go_enter Try.func39, Try.ntmps39
  go_wp2_with (with_reducible refine wpList_box (o := ⟨some 5, .box 75 (.tmp 2), _, _, _, _⟩) ?g2 75 (.tmp 2) ?o2 (.agg #[.int .i64 kind, .int .i64 n, .int .i64 kk, .int .u8 (fill.toNat : Int)]) [.int .i64 kind, .int .i64 n, .int .i64 kk, .int .u8 (fill.toNat : Int)] ?x2 ?c2 ?_)
  try (case g2 => rfl)
  try (case o2 => rfl)
  try (case x2 => rfl)
  try (case c2 => rfl)
  intro gb w1 hgb hs1 hb1 hB1
  have hbel : Below w.heap.size w w1 := hb1.mono (Nat.le_of_eq hgb.out.symm)
  have hB1' : Blk w1 gb 75 [.int .i64 kind, .int .i64 n, .int .i64 kk, .int .u8 (fill.toNat : Int)] := hB1
  have k0 := hB1'.cell (k := 0) rfl
  have h1 := HH.out.next hbel
  clear hb1 hB1 hgb hs1
  clear hB1'
  go_wp2
  go_ret3
  exact ⟨rfl, h1, hbel⟩
end Go.Proofs.Ythgmlopkcgkjlaa
