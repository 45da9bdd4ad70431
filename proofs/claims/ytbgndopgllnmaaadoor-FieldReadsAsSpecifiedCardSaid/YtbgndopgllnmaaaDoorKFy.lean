/-
  The walk over FieldReadsAsSpecified: it returns true. Conditions: names that are not too long; the library's variables lie there.
-/
import Derived.Test.YtbgndopgllnmaaaDoorKFv
import Derived.Test.YtbgndopgllnmaaaDoorGX
import Derived.Test.YtbgndopgllnmaaaDoorGI
import Derived.Test.YtbgndopgllnmaaaDoorGS
namespace Go.Proofs.YtbgndopgllnmaaaDoor
set_option linter.unusedVariables false
set_option linter.unusedSimpArgs false
open Go.RowKit Go.Shelf
set_option linter.unusedVariables false

theorem checkL_all : ∀ {l done : List Fd}, checkL done l = 0 → ∀ f ∈ l, ∃ d, errF d f = 0
  | [], _, _, f, hf => by cases hf
  | g :: l, done, h, f, hf => by
    unfold checkL at h
    by_cases he : errF done g = 0
    · rw [if_pos he] at h
      rcases List.mem_cons.1 hf with rfl | hf
      · exact ⟨done, he⟩
      · exact checkL_all h f hf
    · rw [if_neg he] at h; exact absurd h he
theorem errF_name {done : List Fd} {f : Fd} (h : errF done f = 0) : nameB f.nm = true := by
  unfold errF at h
  split at h
  · cases h
  · rename_i hp
    cases hn : nameB f.nm
    · exact absurd (.inl hn) hp
    · rfl
theorem name_small {s : ByteArray} (h : nameB s = true) : s.size ≤ 1000 := by
  rcases Nat.eq_zero_or_pos s.size with h0 | h0
  · omega
  · rw [name_parts s h0, Bool.and_eq_true, Bool.and_eq_true] at h
    have := of_decide_eq_true h.1.1
    omega
theorem check_small {l : List Fd} (h : checkM l = 0) : l.length ≤ 16 ∧ (∀ f ∈ l, ∃ a n : Nat, f.at_ = (a : Int) ∧ f.wd = (n : Int) ∧ Lies a n) ∧ ∀ f ∈ l, f.nm.size ≤ 1000 := by
  unfold checkM at h
  by_cases hl : l.length > 16
  · rw [if_pos hl] at h; cases h
  · rw [if_neg hl] at h
    refine ⟨by omega, fun f hf => ?_, fun f hf => ?_⟩
    · obtain ⟨d, hd⟩ := checkL_all h f hf
      obtain ⟨a, n, ha, hn, hl, _, _⟩ := place_nat (errF_place hd)
      exact ⟨a, n, ha, hn, hl⟩
    · obtain ⟨d, hd⟩ := checkL_all h f hf
      exact name_small (errF_name hd)
theorem keyL_len {l : List Fd} {h : Nat → Bool} : ∀ {ns : List ByteArray} {vs : List Int}, keyL l h ns = some vs → vs.length = ns.length
  | [], vs, e => by
    injection e with e
    subst e
    rfl
  | s :: ns, vs, e => by
    unfold keyL at e
    split at e
    · cases e
    · cases hk : keyL l h ns with
      | none => rw [hk] at e; cases e
      | some us =>
        rw [hk] at e
        injection e with e
        subst e
        rw [List.length_cons, List.length_cons, keyL_len hk]
def ReadRel (n : Nat) (w0 : World) (i : Value) (wr : World) : Prop := ∃ k : Nat, k ≤ n ∧ i = .int .i64 (k : Int) ∧ Below w0.heap.size w0 wr
set_option maxRecDepth 100000 in
set_option maxHeartbeats 12800000 in
theorem readsBad_any (A B : Option Addr) (c d : Nat) (l : List Fd) (ns : List ByteArray) (hh : List Int) (w : World) (hl10 : hh.length = 10) (hl : l.length ≤ 140737488355328) (hn : ns.length ≤ 140737488355328) (hz : ∀ f ∈ l, f.nm.size ≤ 9223372036854775807) (hS : FsAt w A l) (hQ : QF w) (hb : ¬ (checkM l = 0 ∧ rightI hh ∧ ns.length ≤ 20)) :
    Calls Tryd.prog 4 #[.slice A l.length c, .slice B ns.length d, .agg (hh.map iV).toArray] w fun e w' => e = .returned (.bool true) ∧ Below w.heap.size w w' := by
  have HSA := Lib.hid (fun w h => sanity_any w h)
  have HQ := Lib.hid hQ
  have HS := Lib.hid hS
  have HCK := Lib.hid (fun w' (h : FsAt w' A l) => rcheck_any A c l w' hl hz h)
  have HR3 := Lib.hid (fun w => rrightHead_any hh w hl10)
  obtain ⟨m, hm⟩ : ∃ m, l.length = m := ⟨_, rfl⟩
  obtain ⟨n, hnn⟩ : ∃ n, ns.length = n := ⟨_, rfl⟩
  obtain ⟨C, hC⟩ : ∃ C, checkM l = C := ⟨_, rfl⟩
  rw [hm] at HCK ⊢
  rw [hnn] at hn hb ⊢
  rw [hC] at HCK hb
  have hni : (n : Int) ≤ 140737488355328 := by omega
  clear hS hQ hz hl hm hnn hC
  by_cases h0 : C = 0
  · subst h0
    by_cases h1 : rightI hh
    · have h20 : 20 < n := by
        rcases Nat.lt_or_ge 20 n with k | k
        · exact k
        · exact absurd ⟨rfl, h1, k⟩ hb
      have h20d : decide (20 < n) = true := decide_eq_true h20
      have h20e : decide ((n : Int) > 20) = true := decide_eq_true (by omega)
      have h20f : decide ((20 : Int) < (n : Int)) = true := decide_eq_true (by omega)
      rw [decide_eq_true h1] at HR3
      clear hb
      go_enter Tryd.func4, Tryd.ntmps4
      go_wp2_with (with_reducible refine wpList_box (o := ⟨some 5, .box 30 (.tmp 2), _, _, _, _⟩) ?g5qaa 30 (.tmp 2) ?o5qaa (.agg (hh.map iV).toArray) (hh.map iV) ?x5qaa ?c5qaa ?_)
      try (case g5qaa => rfl)
      try (case o5qaa => rfl)
      try (case x5qaa => rfl)
      try (case c5qaa => rfl)
      intro g5 w1 hg5 hs1 hb1 B5
      have hl5 : w.heap.size ≤ g5 := Nat.le_of_eq hg5.out.symm
      have hb1 := hb1.mono (Nat.le_of_eq hg5.out.symm)
      have hbe : Below w.heap.size w w1 := hb1
      clear hb1 hg5 hs1
      go_wp2_with fail
      (with_reducible refine (HCK.out _ (HS.out.next hbe)).mono ?_)
      rintro e w2 ⟨rfl, hb2⟩
      have B5 := B5.next hb2 B5.lt
      have hbe := below_join hbe hb2
      clear hb2
      go_wp2_with (first | (with_reducible refine wpList_getg (o := ⟨some 20, .load 30 (.tmp 5), _, _, _, _⟩) (by with_unfolding_all rfl) 30 (.tmp 5) (by with_unfolding_all rfl) g5 0 (by with_unfolding_all rfl) B5 (hh.map iV) (cs_all _) _ (by exact Tryd.underlying30) (by with_unfolding_all rfl) (by first | (rw [H_length]; exact Tryd.szH) | (rw [List.length_map, hl10]; exact Tryd.szH)) ?_))
      (with_reducible refine (HR3.out _).mono ?_)
      rintro e w3 ⟨rfl, hb3⟩
      have B5 := B5.next hb3 B5.lt
      have hbe := below_join hbe hb3
      clear hb3
      go_wp2_with fail
      (with_reducible refine (HSA.out _ (HQ.out.next hbe)).mono ?_)
      rintro e w4 ⟨rfl, hb4⟩
      have B5 := B5.next hb4 B5.lt
      have hbe := below_join hbe hb4
      clear hb4
      go_wp2
      go_ret
      exact ⟨rfl, hbe⟩
    · rw [decide_eq_false h1] at HR3
      clear hb
      go_enter Tryd.func4, Tryd.ntmps4
      go_wp2_with (with_reducible refine wpList_box (o := ⟨some 5, .box 30 (.tmp 2), _, _, _, _⟩) ?g5qab 30 (.tmp 2) ?o5qab (.agg (hh.map iV).toArray) (hh.map iV) ?x5qab ?c5qab ?_)
      try (case g5qab => rfl)
      try (case o5qab => rfl)
      try (case x5qab => rfl)
      try (case c5qab => rfl)
      intro g5 w1 hg5 hs1 hb1 B5
      have hl5 : w.heap.size ≤ g5 := Nat.le_of_eq hg5.out.symm
      have hb1 := hb1.mono (Nat.le_of_eq hg5.out.symm)
      have hbe : Below w.heap.size w w1 := hb1
      clear hb1 hg5 hs1
      go_wp2_with fail
      (with_reducible refine (HCK.out _ (HS.out.next hbe)).mono ?_)
      rintro e w2 ⟨rfl, hb2⟩
      have B5 := B5.next hb2 B5.lt
      have hbe := below_join hbe hb2
      clear hb2
      go_wp2_with (first | (with_reducible refine wpList_getg (o := ⟨some 20, .load 30 (.tmp 5), _, _, _, _⟩) (by with_unfolding_all rfl) 30 (.tmp 5) (by with_unfolding_all rfl) g5 0 (by with_unfolding_all rfl) B5 (hh.map iV) (cs_all _) _ (by exact Tryd.underlying30) (by with_unfolding_all rfl) (by first | (rw [H_length]; exact Tryd.szH) | (rw [List.length_map, hl10]; exact Tryd.szH)) ?_))
      (with_reducible refine (HR3.out _).mono ?_)
      rintro e w3 ⟨rfl, hb3⟩
      have B5 := B5.next hb3 B5.lt
      have hbe := below_join hbe hb3
      clear hb3
      go_wp2_with fail
      (with_reducible refine (HSA.out _ (HQ.out.next hbe)).mono ?_)
      rintro e w4 ⟨rfl, hb4⟩
      have B5 := B5.next hb4 B5.lt
      have hbe := below_join hbe hb4
      clear hb4
      go_wp2
      go_ret
      exact ⟨rfl, hbe⟩
  · have h0a : (C != 0) = true := bne_iff_ne.2 h0
    obtain ⟨C3, hC3⟩ : ∃ C, decide (rightI hh) = C := ⟨_, rfl⟩
    rw [hC3] at HR3
    clear hb hC3
    go_enter Tryd.func4, Tryd.ntmps4
    go_wp2_with (with_reducible refine wpList_box (o := ⟨some 5, .box 30 (.tmp 2), _, _, _, _⟩) ?g5qac 30 (.tmp 2) ?o5qac (.agg (hh.map iV).toArray) (hh.map iV) ?x5qac ?c5qac ?_)
    try (case g5qac => rfl)
    try (case o5qac => rfl)
    try (case x5qac => rfl)
    try (case c5qac => rfl)
    intro g5 w1 hg5 hs1 hb1 B5
    have hl5 : w.heap.size ≤ g5 := Nat.le_of_eq hg5.out.symm
    have hb1 := hb1.mono (Nat.le_of_eq hg5.out.symm)
    have hbe : Below w.heap.size w w1 := hb1
    clear hb1 hg5 hs1
    go_wp2_with fail
    (with_reducible refine (HCK.out _ (HS.out.next hbe)).mono ?_)
    rintro e w2 ⟨rfl, hb2⟩
    have B5 := B5.next hb2 B5.lt
    have hbe := below_join hbe hb2
    clear hb2
    go_wp2_with (first | (with_reducible refine wpList_getg (o := ⟨some 20, .load 30 (.tmp 5), _, _, _, _⟩) (by with_unfolding_all rfl) 30 (.tmp 5) (by with_unfolding_all rfl) g5 0 (by with_unfolding_all rfl) B5 (hh.map iV) (cs_all _) _ (by exact Tryd.underlying30) (by with_unfolding_all rfl) (by first | (rw [H_length]; exact Tryd.szH) | (rw [List.length_map, hl10]; exact Tryd.szH)) ?_))
    (with_reducible refine (HR3.out _).mono ?_)
    rintro e w3 ⟨rfl, hb3⟩
    have B5 := B5.next hb3 B5.lt
    have hbe := below_join hbe hb3
    clear hb3
    go_wp2_with fail
    (with_reducible refine (HSA.out _ (HQ.out.next hbe)).mono ?_)
    rintro e w4 ⟨rfl, hb4⟩
    have B5 := B5.next hb4 B5.lt
    have hbe := below_join hbe hb4
    clear hb4
    go_wp2
    go_ret
    exact ⟨rfl, hbe⟩
set_option maxRecDepth 100000 in
set_option maxHeartbeats 25600000 in
theorem readsGood_any (A B : Option Addr) (c d : Nat) (l : List Fd) (ns : List ByteArray) (h : Nat → Bool) (w : World) (hz : ∀ f ∈ l, f.nm.size ≤ 9223372036854775807) (hS : FsAt w A l) (hT : StAt w B ns) (hQ : QF w) (hC : checkM l = 0) (hn : ns.length ≤ 20) :
    Calls Tryd.prog 4 #[.slice A l.length c, .slice B ns.length d, .agg (H h).toArray] w fun e w' => e = .returned (.bool true) ∧ Below w.heap.size w w' := by
  obtain ⟨hl16, hr, hz1⟩ := check_small hC
  have hl : l.length ≤ 140737488355328 := by omega
  have HSA := Lib.hid (fun w h => sanity_any w h)
  have HQ := Lib.hid hQ
  have HS := Lib.hid hS
  have HCK := Lib.hid (fun w' (h : FsAt w' A l) => rcheck_any A c l w' hl hz h)
  have HT := Lib.hid hT
  have HR := Lib.hid hr
  have HR3 := Lib.hid (fun w => rrightHead_any (HI h) w (HI_length h))
  rw [decide_eq_true (rightI_HI h), show (HI h).map iV = H h from (H_iV h).symm] at HR3
  have HF1 := Lib.hid (fun nm w' (hh : FsAt w' A l) => find_any A c l nm w' hl hh)
  have HF2 := Lib.hid (fun nm w' (hh : FsAt w' A l) => rfind_any A c l nm w' hl hh)
  have HK1 := Lib.hid (fun w' (hh : FsAt w' A l) (ht : StAt w' B ns) => key_any A B c d l ns h w' hl (by omega) hr hh ht)
  have HK2 := Lib.hid (fun w' (hh : FsAt w' A l) (ht : StAt w' B ns) => rkey_any A B c d l ns h w' hl (by omega) hr hh ht)
  have HH1 := Lib.hid (fun w' (hh : FsAt w' A l) (q : QF w') => fshow_any A c l h w' (by omega) hr hz1 hh q)
  have HH2 := Lib.hid (fun w' (hh : FsAt w' A l) (q : QF w') => rshow_any A c l h w' (by omega) hr hz1 hh q)
  obtain ⟨SH, hSH⟩ : ∃ S, (⟨(showT l h).toArray⟩ : ByteArray) = S := ⟨_, rfl⟩
  rw [hSH] at HH1 HH2
  rw [hC] at HCK
  obtain ⟨m, hm⟩ : ∃ m, l.length = m := ⟨_, rfl⟩
  obtain ⟨n, hnn⟩ : ∃ n, ns.length = n := ⟨_, rfl⟩
  have hNS : Hid (ns.length ≤ 20) := hn
  have hget : ∀ k, k < n → ∃ s, ns[k]? = some s := fun k hk => ⟨_, List.getElem?_eq_getElem (by omega)⟩
  have HGE := Lib.hid hget
  rw [hm] at HCK HF1 HF2 HK1 HK2 HH1 HH2 ⊢
  rw [hnn] at hn HK1 HK2 ⊢
  have hni : (n : Int) ≤ 20 := by omega
  have h20d : decide (20 < n) = false := decide_eq_false (by omega)
  have h20e : decide ((n : Int) > 20) = false := decide_eq_false (by omega)
  have h20f : decide ((20 : Int) < (n : Int)) = false := decide_eq_false (by omega)
  clear hS hT hQ hz hl hr hz1 hm hnn hC hl16 hSH hget
  go_enter Tryd.func4, Tryd.ntmps4
  go_wp2_with (with_reducible refine wpList_box (o := ⟨some 5, .box 30 (.tmp 2), _, _, _, _⟩) ?g5qad 30 (.tmp 2) ?o5qad (.agg (H h).toArray) (H h) ?x5qad ?c5qad ?_)
  try (case g5qad => rfl)
  try (case o5qad => rfl)
  try (case x5qad => rfl)
  try (case c5qad => rfl)
  intro g5 w1 hg5 hs1 hb1 B5
  have hl5 : w.heap.size ≤ g5 := Nat.le_of_eq hg5.out.symm
  have hb1 := hb1.mono (Nat.le_of_eq hg5.out.symm)
  have hbe : Below w.heap.size w w1 := hb1
  clear hb1 hg5 hs1
  go_wp2_with fail
  (with_reducible refine (HCK.out _ (HS.out.next hbe)).mono ?_)
  rintro e w2 ⟨rfl, hb2⟩
  have B5 := B5.next hb2 B5.lt
  have hbe := below_join hbe hb2
  clear hb2
  go_wp2_with (first | (with_reducible refine wpList_getg (o := ⟨some 20, .load 30 (.tmp 5), _, _, _, _⟩) (by with_unfolding_all rfl) 30 (.tmp 5) (by with_unfolding_all rfl) g5 0 (by with_unfolding_all rfl) B5 (H h) (cs_all _) _ (by exact Tryd.underlying30) (by with_unfolding_all rfl) (by first | (rw [H_length]; exact Tryd.szH) | (rw [List.length_map, hl10]; exact Tryd.szH)) ?_))
  (with_reducible refine (HR3.out _).mono ?_)
  rintro e w3 ⟨rfl, hb3⟩
  have B5 := B5.next hb3 B5.lt
  have hbe := below_join hbe hb3
  clear hb3
  clear HCK HR3
  go_wp2
  have HBE := Lib.hid hbe
  go_loopw [9] (fun iv wr => ReadRel n w3 iv wr) (fun i _ => n - (intOf i).toNat)
  case atStart => exact ⟨0, Nat.zero_le _, rfl, Below.refl _ _⟩
  case round =>
    obtain ⟨k, hk, rfl, hbL⟩ := hrel
    have hbe := below_join hbe hbL
    have B5 := B5.next hbL B5.lt
    by_cases hlt : k < n
    · have hki : (k : Int) < (n : Int) := by omega
      have hk0 : (0 : Int) ≤ (k : Int) := by omega
      have e2 : IntKind.i64.wrap ((k : Int) + 1) = (k : Int) + 1 := by simp only [IntKind.wrap_i64]; omega
      obtain ⟨nm, hnm⟩ := HGE.out k hlt
      obtain ⟨gb, ob, hB, cn⟩ := (HT.out.next hbe) k nm hnm
      subst hB
      have HCN := Lib.hid cn
      have hbr : Below wr.heap.size wr wr := Below.refl _ _
      have hgn := fun f (e : findM nm l = some f) => find_fits HR.out e
      clear hnm HBE HK1 HK2 HH1 HH2 HSA
      cases hfm : findM nm l with
      | none =>
        have HG1 : Hid (∀ w', FsAt w' A l → Calls Tryd.prog 14 #[.slice A m c, .string nm] w' fun e w'' => e = .returned (.tuple #[.agg #[.string ByteArray.empty, .int .i64 0, .int .i64 0], .bool false]) ∧ Below w'.heap.size w' w'') := (by
          have : ∀ w', FsAt w' A l → Calls Tryd.prog 14 #[.slice A m c, .string nm] w' fun e w'' => e = .returned (.tuple #[.agg #[.string ByteArray.empty, .int .i64 0, .int .i64 0], .bool false]) ∧ Below w'.heap.size w' w'' := fun w' hh => by
            have := HF1.out nm w' hh
            rw [hfm] at this
            exact this
          exact this)
        have HG2 : Hid (∀ w', FsAt w' A l → Calls Tryd.prog 15 #[.slice A m c, .string nm] w' fun e w'' => e = .returned (.tuple #[.agg #[.string ByteArray.empty, .int .i64 0, .int .i64 0], .bool false]) ∧ Below w'.heap.size w' w'') := (by
          have : ∀ w', FsAt w' A l → Calls Tryd.prog 15 #[.slice A m c, .string nm] w' fun e w'' => e = .returned (.tuple #[.agg #[.string ByteArray.empty, .int .i64 0, .int .i64 0], .bool false]) ∧ Below w'.heap.size w' w'' := fun w' hh => by
            have := HF2.out nm w' hh
            rw [hfm] at this
            exact this
          exact this)
        have hneq : ∀ w, (binOp .neq 33 (.agg #[.string ByteArray.empty, .int .i64 0, .int .i64 0]) (.agg #[.string ByteArray.empty, .int .i64 0, .int .i64 0])).run Tryd.prog w = .ok (.bool false) w := fun w => by rw [neqFd]; simp
        clear hfm hgn HF1 HF2
        go_wp2_with fail
        (with_reducible refine (HG1.out _ (HS.out.next hbe)).mono ?_)
        rintro e w101 ⟨rfl, hb101⟩
        clear cn
        have B5 := B5.next hb101 B5.lt
        have hbe := below_join hbe hb101
        have hbL := below_join hbL hb101
        have hbr := below_join hbr hb101
        clear hb101
        go_wp2_with (with_reducible refine wpList_alloc (o := ⟨some 10, .alloc 33, _, _, _, _⟩) (by with_unfolding_all rfl) 33 (by with_unfolding_all rfl) (.agg #[.string ByteArray.empty, .int .i64 0, .int .i64 0]) [Value.string ByteArray.empty, .int .i64 0, .int .i64 0] (by exact Tryd.zeroF) (by with_unfolding_all rfl) ?_)
        intro g10 w102 hg10 hs102 hb102 B10
        have hl10 : w.heap.size ≤ g10 := Nat.le_trans hbe.size (Nat.le_of_eq hg10.out.symm)
        have hmhbL_10 : w3.heap.size ≤ g10 := Nat.le_trans hbL.size (Nat.le_of_eq hg10.out.symm)
        have hmhbr_10 : wr.heap.size ≤ g10 := Nat.le_trans hbr.size (Nat.le_of_eq hg10.out.symm)
        have ne5_10 : g5 ≠ g10 := by have := B5.lt; have := hg10.out; omega
        have ne10_5 := ne5_10.symm
        have hb102 := hb102.mono (Nat.le_of_eq hg10.out.symm)
        have B5 := B5.next hb102 B5.lt
        have hbe := below_join hbe hb102
        have hbL := below_join hbL hb102
        have hbr := below_join hbr hb102
        clear hb102 hg10 hs102
        go_wp2_with (with_reducible refine wpList_put (o := ⟨none, .store 33 (.tmp 10) (.tmp 47), _, _, _, _⟩) (by with_unfolding_all rfl) 33 (.tmp 10) (.tmp 47) (by with_unfolding_all rfl) g10 0 (by with_unfolding_all rfl) (.agg #[.string ByteArray.empty, .int .i64 0, .int .i64 0]) (by with_unfolding_all rfl) B10 [Value.string ByteArray.empty, .int .i64 0, .int .i64 0] (by with_unfolding_all rfl) (by with_unfolding_all (first | exact Tryd.szF | (simp only [H_length, Pat.cells_length, List.length_append]; exact Tryd.szF))) (by with_unfolding_all (first | exact Nat.le_refl 3 | (simp only [H_length, Pat.cells_length, List.length_append]; omega))) (by with_unfolding_all (exact fields_one _ _ _)) ?_)
        intro w103 hu103 C10
        rw [splice_all _ _ (by rfl)] at C10
        have B5 := B5.upd hu103 ne5_10
        have hbL := hbL.trans (hu103.below (B := w3.heap.size) hmhbL_10)
        have hbr := hbr.trans (hu103.below (B := wr.heap.size) hmhbr_10)
        have hbe := hbe.trans (hu103.below (B := w.heap.size) hl10)
        clear B10 hu103
        have B10 := C10
        clear C10
        have cn := cellf_below hbr HCN.out
        go_wp2_with fail
        (with_reducible refine (HG2.out _ (HS.out.next hbe)).mono ?_)
        rintro e w104 ⟨rfl, hb104⟩
        clear cn
        have B5 := B5.next hb104 B5.lt
        have B10 := B10.next hb104 B10.lt
        have hbe := below_join hbe hb104
        have hbL := below_join hbL hb104
        have hbr := below_join hbr hb104
        clear hb104
        go_wp2_with (with_reducible refine wpList_alloc (o := ⟨some 12, .alloc 33, _, _, _, _⟩) (by with_unfolding_all rfl) 33 (by with_unfolding_all rfl) (.agg #[.string ByteArray.empty, .int .i64 0, .int .i64 0]) [Value.string ByteArray.empty, .int .i64 0, .int .i64 0] (by exact Tryd.zeroF) (by with_unfolding_all rfl) ?_)
        intro g12 w105 hg12 hs105 hb105 B12
        have hl12 : w.heap.size ≤ g12 := Nat.le_trans hbe.size (Nat.le_of_eq hg12.out.symm)
        have hmhbL_12 : w3.heap.size ≤ g12 := Nat.le_trans hbL.size (Nat.le_of_eq hg12.out.symm)
        have hmhbr_12 : wr.heap.size ≤ g12 := Nat.le_trans hbr.size (Nat.le_of_eq hg12.out.symm)
        have ne5_12 : g5 ≠ g12 := by have := B5.lt; have := hg12.out; omega
        have ne12_5 := ne5_12.symm
        have ne10_12 : g10 ≠ g12 := by have := B10.lt; have := hg12.out; omega
        have ne12_10 := ne10_12.symm
        have hb105 := hb105.mono (Nat.le_of_eq hg12.out.symm)
        have B5 := B5.next hb105 B5.lt
        have B10 := B10.next hb105 B10.lt
        have hbe := below_join hbe hb105
        have hbL := below_join hbL hb105
        have hbr := below_join hbr hb105
        clear hb105 hg12 hs105
        go_wp2_with (with_reducible refine wpList_put (o := ⟨none, .store 33 (.tmp 12) (.tmp 56), _, _, _, _⟩) (by with_unfolding_all rfl) 33 (.tmp 12) (.tmp 56) (by with_unfolding_all rfl) g12 0 (by with_unfolding_all rfl) (.agg #[.string ByteArray.empty, .int .i64 0, .int .i64 0]) (by with_unfolding_all rfl) B12 [Value.string ByteArray.empty, .int .i64 0, .int .i64 0] (by with_unfolding_all rfl) (by with_unfolding_all (first | exact Tryd.szF | (simp only [H_length, Pat.cells_length, List.length_append]; exact Tryd.szF))) (by with_unfolding_all (first | exact Nat.le_refl 3 | (simp only [H_length, Pat.cells_length, List.length_append]; omega))) (by with_unfolding_all (exact fields_one _ _ _)) ?_)
        intro w106 hu106 C12
        rw [splice_all _ _ (by rfl)] at C12
        have B5 := B5.upd hu106 ne5_12
        have B10 := B10.upd hu106 ne10_12
        have hbL := hbL.trans (hu106.below (B := w3.heap.size) hmhbL_12)
        have hbr := hbr.trans (hu106.below (B := wr.heap.size) hmhbr_12)
        have hbe := hbe.trans (hu106.below (B := w.heap.size) hl12)
        clear B12 hu106
        have B12 := C12
        clear C12
        clear HG1 HG2
        have z10_0 := B10.cell (k := 0) rfl
        have z10_1 := B10.cell (k := 1) rfl
        have z10_2 := B10.cell (k := 2) rfl
        have z12_0 := B12.cell (k := 0) rfl
        have z12_1 := B12.cell (k := 1) rfl
        have z12_2 := B12.cell (k := 2) rfl
        go_wp2
        clear z10_0 z10_1 z10_2 z12_0 z12_1 z12_2
        have hdd := below_drew w106
        have B5 := B5.next hdd B5.lt
        have B10 := B10.next hdd B10.lt
        have B12 := B12.next hdd B12.lt
        have hbe := below_join hbe hdd
        have hbL := below_join hbL hdd
        have hbr := below_join hbr hdd
        refine wp_region_held_drew (S := fun _ => True) (by kernel_rfl) trivial (fun hHeld => ?_)
        clear hdd
        generalize w106.drew = w107 at B5 B10 B12 hbe hHeld hbL hbr ⊢
        refine wpAnyH_take (i := 0) (v := ?vqae0) rfl (by kernel_rfl) (by kernel_rfl) (by kernel_rfl) (fun _ _ _ h => h) (Or.inl ⟨by rfl, ?yqae0⟩) (by assumption) ?rqae0
        case yqae0 => intro w hSw; (try dsimp only at hSw); go_simp <;> (try with_reducible rfl)
        (try simp only [List.getElem_toArray, List.getElem_cons_zero, Act.put, List.setIfInBounds_toArray, List.set_cons_zero, List.set_cons_succ])
        refine wpAnyH_take (i := 1) (v := ?vqae1) rfl (by kernel_rfl) (by kernel_rfl) (by kernel_rfl) (fun _ _ _ h => h) (Or.inl ⟨by rfl, ?yqae1⟩) (by assumption) ?rqae1
        case yqae1 => intro w hSw; (try dsimp only at hSw); go_simp <;> (try with_reducible rfl)
        (try simp only [List.getElem_toArray, List.getElem_cons_succ, List.getElem_cons_zero, Act.put, List.setIfInBounds_toArray, List.set_cons_zero, List.set_cons_succ])
        refine wpAnyH_take (i := 2) (v := undef) rfl (by kernel_rfl) (by kernel_rfl) (by kernel_rfl) (fun _ _ _ h => h) (Or.inr ⟨by rfl, rfl⟩) (by assumption) ?rqae2
        (try simp only [List.getElem_toArray, List.getElem_cons_succ, List.getElem_cons_zero, Act.put, List.setIfInBounds_toArray, List.set_cons_zero, List.set_cons_succ])
        refine wpAnyH_take (i := 3) (v := undef) rfl (by kernel_rfl) (by kernel_rfl) (by kernel_rfl) (fun _ _ _ h => h) (Or.inr ⟨by rfl, rfl⟩) (by assumption) ?rqae3
        (try simp only [List.getElem_toArray, List.getElem_cons_succ, List.getElem_cons_zero, Act.put, List.setIfInBounds_toArray, List.set_cons_zero, List.set_cons_succ])
        refine wpAnyH_take (i := 4) (v := undef) rfl (by kernel_rfl) (by kernel_rfl) (by kernel_rfl) (fun _ _ _ h => h) (Or.inr ⟨by rfl, rfl⟩) (by assumption) ?rqae4
        (try simp only [List.getElem_toArray, List.getElem_cons_succ, List.getElem_cons_zero, Act.put, List.setIfInBounds_toArray, List.set_cons_zero, List.set_cons_succ])
        refine wpAnyH_take (i := 5) (v := undef) rfl (by kernel_rfl) (by kernel_rfl) (by kernel_rfl) (fun _ _ _ h => h) (Or.inr ⟨by rfl, rfl⟩) (by assumption) ?rqae5
        (try simp only [List.getElem_toArray, List.getElem_cons_succ, List.getElem_cons_zero, Act.put, List.setIfInBounds_toArray, List.set_cons_zero, List.set_cons_succ])
        refine wpAnyH_take (i := 6) (v := undef) rfl (by kernel_rfl) (by kernel_rfl) (by kernel_rfl) (fun _ _ _ h => h) (Or.inr ⟨by rfl, rfl⟩) (by assumption) ?rqae6
        (try simp only [List.getElem_toArray, List.getElem_cons_succ, List.getElem_cons_zero, Act.put, List.setIfInBounds_toArray, List.set_cons_zero, List.set_cons_succ])
        refine wpAnyH_take (i := 7) (v := undef) rfl (by kernel_rfl) (by kernel_rfl) (by kernel_rfl) (fun _ _ _ h => h) (Or.inr ⟨by rfl, rfl⟩) (by assumption) ?rqae7
        (try simp only [List.getElem_toArray, List.getElem_cons_succ, List.getElem_cons_zero, Act.put, List.setIfInBounds_toArray, List.set_cons_zero, List.set_cons_succ])
        refine wpAnyH_take (i := 8) (v := undef) rfl (by kernel_rfl) (by kernel_rfl) (by kernel_rfl) (fun _ _ _ h => h) (Or.inr ⟨by rfl, rfl⟩) (by assumption) ?rqae8
        (try simp only [List.getElem_toArray, List.getElem_cons_succ, List.getElem_cons_zero, Act.put, List.setIfInBounds_toArray, List.set_cons_zero, List.set_cons_succ])
        refine wpAnyH_take (i := 9) (v := undef) rfl (by kernel_rfl) (by kernel_rfl) (by kernel_rfl) (fun _ _ _ h => h) (Or.inr ⟨by rfl, rfl⟩) (by assumption) ?rqae9
        (try simp only [List.getElem_toArray, List.getElem_cons_succ, List.getElem_cons_zero, Act.put, List.setIfInBounds_toArray, List.set_cons_zero, List.set_cons_succ])
        refine wpAnyH_take (i := 10) (v := undef) rfl (by kernel_rfl) (by kernel_rfl) (by kernel_rfl) (fun _ _ _ h => h) (Or.inr ⟨by rfl, rfl⟩) (by assumption) ?rqae10
        (try simp only [List.getElem_toArray, List.getElem_cons_succ, List.getElem_cons_zero, Act.put, List.setIfInBounds_toArray, List.set_cons_zero, List.set_cons_succ])
        refine wpAnyH_take (i := 11) (v := undef) rfl (by kernel_rfl) (by kernel_rfl) (by kernel_rfl) (fun _ _ _ h => h) (Or.inr ⟨by rfl, rfl⟩) (by assumption) ?rqae11
        (try simp only [List.getElem_toArray, List.getElem_cons_succ, List.getElem_cons_zero, Act.put, List.setIfInBounds_toArray, List.set_cons_zero, List.set_cons_succ])
        refine wpAnyH_take (i := 12) (v := undef) rfl (by kernel_rfl) (by kernel_rfl) (by kernel_rfl) (fun _ _ _ h => h) (Or.inr ⟨by rfl, rfl⟩) (by assumption) ?rqae12
        (try simp only [List.getElem_toArray, List.getElem_cons_succ, List.getElem_cons_zero, Act.put, List.setIfInBounds_toArray, List.set_cons_zero, List.set_cons_succ])
        refine wpAnyH_take (i := 13) (v := undef) rfl (by kernel_rfl) (by kernel_rfl) (by kernel_rfl) (fun _ _ _ h => h) (Or.inr ⟨by rfl, rfl⟩) (by assumption) ?rqae13
        (try simp only [List.getElem_toArray, List.getElem_cons_succ, List.getElem_cons_zero, Act.put, List.setIfInBounds_toArray, List.set_cons_zero, List.set_cons_succ])
        refine wpAnyH_take (i := 14) (v := undef) rfl (by kernel_rfl) (by kernel_rfl) (by kernel_rfl) (fun _ _ _ h => h) (Or.inr ⟨by rfl, rfl⟩) (by assumption) ?rqae14
        (try simp only [List.getElem_toArray, List.getElem_cons_succ, List.getElem_cons_zero, Act.put, List.setIfInBounds_toArray, List.set_cons_zero, List.set_cons_succ])
        refine wpAnyH_take (i := 15) (v := undef) rfl (by kernel_rfl) (by kernel_rfl) (by kernel_rfl) (fun _ _ _ h => h) (Or.inr ⟨by rfl, rfl⟩) (by assumption) ?rqae15
        (try simp only [List.getElem_toArray, List.getElem_cons_succ, List.getElem_cons_zero, Act.put, List.setIfInBounds_toArray, List.set_cons_zero, List.set_cons_succ])
        refine wpAnyH_take (i := 16) (v := ?vqae16) rfl (by kernel_rfl) (by kernel_rfl) (by kernel_rfl) (fun _ _ _ h => h) (Or.inl ⟨by rfl, ?yqae16⟩) (by assumption) ?rqae16
        case yqae16 => intro w hSw; (try dsimp only at hSw); go_simp <;> (try with_reducible rfl)
        (try simp only [List.getElem_toArray, List.getElem_cons_succ, List.getElem_cons_zero, Act.put, List.setIfInBounds_toArray, List.set_cons_zero, List.set_cons_succ])
        refine wpAnyH_done (by kernel_rfl) ?_ _
        clear hHeld 
        clear B10 B12 B5
        go_wp2
        go_roundw
        case rel => exact ⟨k + 1, by omega, by go_num, hbL⟩
        case measure => simp [intOf]; omega
      | some f =>
        obtain ⟨a, b, hfa, hfb, hLb⟩ := hgn _ hfm
        obtain ⟨fm, fa, fb⟩ := f
        have hfa : fa = (a : Int) := hfa
        have hfb : fb = (b : Int) := hfb
        subst hfa hfb
        have HG1 : Hid (∀ w', FsAt w' A l → Calls Tryd.prog 14 #[.slice A m c, .string nm] w' fun e w'' => e = .returned (.tuple #[.agg #[.string fm, .int .i64 (a : Int), .int .i64 (b : Int)], .bool true]) ∧ Below w'.heap.size w' w'') := (by
          have : ∀ w', FsAt w' A l → Calls Tryd.prog 14 #[.slice A m c, .string nm] w' fun e w'' => e = .returned (.tuple #[.agg #[.string fm, .int .i64 (a : Int), .int .i64 (b : Int)], .bool true]) ∧ Below w'.heap.size w' w'' := fun w' hh => by
            have := HF1.out nm w' hh
            rw [hfm] at this
            exact this
          exact this)
        have HG2 : Hid (∀ w', FsAt w' A l → Calls Tryd.prog 15 #[.slice A m c, .string nm] w' fun e w'' => e = .returned (.tuple #[.agg #[.string fm, .int .i64 (a : Int), .int .i64 (b : Int)], .bool true]) ∧ Below w'.heap.size w' w'') := (by
          have : ∀ w', FsAt w' A l → Calls Tryd.prog 15 #[.slice A m c, .string nm] w' fun e w'' => e = .returned (.tuple #[.agg #[.string fm, .int .i64 (a : Int), .int .i64 (b : Int)], .bool true]) ∧ Below w'.heap.size w' w'' := fun w' hh => by
            have := HF2.out nm w' hh
            rw [hfm] at this
            exact this
          exact this)
        have hneq : ∀ w, (binOp .neq 33 (.agg #[.string fm, .int .i64 (a : Int), .int .i64 (b : Int)]) (.agg #[.string fm, .int .i64 (a : Int), .int .i64 (b : Int)])).run Tryd.prog w = .ok (.bool false) w := fun w => by rw [neqFd]; simp
        have HM1 := Lib.hid (fun w => max_any fm a b w hLb)
        have HM2 := Lib.hid (fun w => rmax_any fm a b w hLb)
        have HT1 := Lib.hid (fun w => get_any fm a b h w hLb)
        have HT2 := Lib.hid (fun w => rget_any fm a b h w hLb)
        obtain ⟨MM, hMM⟩ : ∃ M, 2 ^ b - 1 = M := ⟨_, rfl⟩
        obtain ⟨VV, hVV⟩ : ∃ V, fieldN h a b = V := ⟨_, rfl⟩
        rw [hMM] at HM1 HM2
        rw [hVV] at HT1 HT2
        clear hfm hgn HF1 HF2 hMM hVV hLb
        go_wp2_with fail
        (with_reducible refine (HG1.out _ (HS.out.next hbe)).mono ?_)
        rintro e w101 ⟨rfl, hb101⟩
        clear cn
        have B5 := B5.next hb101 B5.lt
        have hbe := below_join hbe hb101
        have hbL := below_join hbL hb101
        have hbr := below_join hbr hb101
        clear hb101
        go_wp2_with (with_reducible refine wpList_alloc (o := ⟨some 10, .alloc 33, _, _, _, _⟩) (by with_unfolding_all rfl) 33 (by with_unfolding_all rfl) (.agg #[.string ByteArray.empty, .int .i64 0, .int .i64 0]) [Value.string ByteArray.empty, .int .i64 0, .int .i64 0] (by exact Tryd.zeroF) (by with_unfolding_all rfl) ?_)
        intro g10 w102 hg10 hs102 hb102 B10
        have hl10 : w.heap.size ≤ g10 := Nat.le_trans hbe.size (Nat.le_of_eq hg10.out.symm)
        have hmhbL_10 : w3.heap.size ≤ g10 := Nat.le_trans hbL.size (Nat.le_of_eq hg10.out.symm)
        have hmhbr_10 : wr.heap.size ≤ g10 := Nat.le_trans hbr.size (Nat.le_of_eq hg10.out.symm)
        have ne5_10 : g5 ≠ g10 := by have := B5.lt; have := hg10.out; omega
        have ne10_5 := ne5_10.symm
        have hb102 := hb102.mono (Nat.le_of_eq hg10.out.symm)
        have B5 := B5.next hb102 B5.lt
        have hbe := below_join hbe hb102
        have hbL := below_join hbL hb102
        have hbr := below_join hbr hb102
        clear hb102 hg10 hs102
        go_wp2_with (with_reducible refine wpList_put (o := ⟨none, .store 33 (.tmp 10) (.tmp 47), _, _, _, _⟩) (by with_unfolding_all rfl) 33 (.tmp 10) (.tmp 47) (by with_unfolding_all rfl) g10 0 (by with_unfolding_all rfl) (.agg #[.string fm, .int .i64 (a : Int), .int .i64 (b : Int)]) (by with_unfolding_all rfl) B10 [Value.string fm, .int .i64 (a : Int), .int .i64 (b : Int)] (by with_unfolding_all rfl) (by with_unfolding_all (first | exact Tryd.szF | (simp only [H_length, Pat.cells_length, List.length_append]; exact Tryd.szF))) (by with_unfolding_all (first | exact Nat.le_refl 3 | (simp only [H_length, Pat.cells_length, List.length_append]; omega))) (by with_unfolding_all (exact fields_one _ _ _)) ?_)
        intro w103 hu103 C10
        rw [splice_all _ _ (by rfl)] at C10
        have B5 := B5.upd hu103 ne5_10
        have hbL := hbL.trans (hu103.below (B := w3.heap.size) hmhbL_10)
        have hbr := hbr.trans (hu103.below (B := wr.heap.size) hmhbr_10)
        have hbe := hbe.trans (hu103.below (B := w.heap.size) hl10)
        clear B10 hu103
        have B10 := C10
        clear C10
        have cn := cellf_below hbr HCN.out
        go_wp2_with fail
        (with_reducible refine (HG2.out _ (HS.out.next hbe)).mono ?_)
        rintro e w104 ⟨rfl, hb104⟩
        clear cn
        have B5 := B5.next hb104 B5.lt
        have B10 := B10.next hb104 B10.lt
        have hbe := below_join hbe hb104
        have hbL := below_join hbL hb104
        have hbr := below_join hbr hb104
        clear hb104
        go_wp2_with (with_reducible refine wpList_alloc (o := ⟨some 12, .alloc 33, _, _, _, _⟩) (by with_unfolding_all rfl) 33 (by with_unfolding_all rfl) (.agg #[.string ByteArray.empty, .int .i64 0, .int .i64 0]) [Value.string ByteArray.empty, .int .i64 0, .int .i64 0] (by exact Tryd.zeroF) (by with_unfolding_all rfl) ?_)
        intro g12 w105 hg12 hs105 hb105 B12
        have hl12 : w.heap.size ≤ g12 := Nat.le_trans hbe.size (Nat.le_of_eq hg12.out.symm)
        have hmhbL_12 : w3.heap.size ≤ g12 := Nat.le_trans hbL.size (Nat.le_of_eq hg12.out.symm)
        have hmhbr_12 : wr.heap.size ≤ g12 := Nat.le_trans hbr.size (Nat.le_of_eq hg12.out.symm)
        have ne5_12 : g5 ≠ g12 := by have := B5.lt; have := hg12.out; omega
        have ne12_5 := ne5_12.symm
        have ne10_12 : g10 ≠ g12 := by have := B10.lt; have := hg12.out; omega
        have ne12_10 := ne10_12.symm
        have hb105 := hb105.mono (Nat.le_of_eq hg12.out.symm)
        have B5 := B5.next hb105 B5.lt
        have B10 := B10.next hb105 B10.lt
        have hbe := below_join hbe hb105
        have hbL := below_join hbL hb105
        have hbr := below_join hbr hb105
        clear hb105 hg12 hs105
        go_wp2_with (with_reducible refine wpList_put (o := ⟨none, .store 33 (.tmp 12) (.tmp 56), _, _, _, _⟩) (by with_unfolding_all rfl) 33 (.tmp 12) (.tmp 56) (by with_unfolding_all rfl) g12 0 (by with_unfolding_all rfl) (.agg #[.string fm, .int .i64 (a : Int), .int .i64 (b : Int)]) (by with_unfolding_all rfl) B12 [Value.string fm, .int .i64 (a : Int), .int .i64 (b : Int)] (by with_unfolding_all rfl) (by with_unfolding_all (first | exact Tryd.szF | (simp only [H_length, Pat.cells_length, List.length_append]; exact Tryd.szF))) (by with_unfolding_all (first | exact Nat.le_refl 3 | (simp only [H_length, Pat.cells_length, List.length_append]; omega))) (by with_unfolding_all (exact fields_one _ _ _)) ?_)
        intro w106 hu106 C12
        rw [splice_all _ _ (by rfl)] at C12
        have B5 := B5.upd hu106 ne5_12
        have B10 := B10.upd hu106 ne10_12
        have hbL := hbL.trans (hu106.below (B := w3.heap.size) hmhbL_12)
        have hbr := hbr.trans (hu106.below (B := wr.heap.size) hmhbr_12)
        have hbe := hbe.trans (hu106.below (B := w.heap.size) hl12)
        clear B12 hu106
        have B12 := C12
        clear C12
        clear HG1 HG2
        have z10_0 := B10.cell (k := 0) rfl
        have z10_1 := B10.cell (k := 1) rfl
        have z10_2 := B10.cell (k := 2) rfl
        have z12_0 := B12.cell (k := 0) rfl
        have z12_1 := B12.cell (k := 1) rfl
        have z12_2 := B12.cell (k := 2) rfl
        go_wp2
        clear z10_0 z10_1 z10_2 z12_0 z12_1 z12_2
        have hdd := below_drew w106
        have B5 := B5.next hdd B5.lt
        have B10 := B10.next hdd B10.lt
        have B12 := B12.next hdd B12.lt
        have hbe := below_join hbe hdd
        have hbL := below_join hbL hdd
        have hbr := below_join hbr hdd
        have zz10_1 : (Tryd.prog.info? 33).map (·.size) = some [Value.string fm, .int .i64 (a : Int), .int .i64 (b : Int)].length := (by first | exact Tryd.szF | (simp only [H_length, Pat.cells_length, List.length_append]; exact Tryd.szF))
        have zz5_2 : (Tryd.prog.info? 30).map (·.size) = some (H h).length := (by first | exact Tryd.szH | (simp only [H_length, Pat.cells_length, List.length_append]; exact Tryd.szH))
        refine wp_region_held_drew (S := fun w' => w'.rangeAt g10 0 [Value.string fm, .int .i64 (a : Int), .int .i64 (b : Int)] ∧ w'.rangeAt g5 0 (H h)) (by kernel_rfl) ⟨blk_range B10, blk_range B5⟩ (fun hHeld => ?_)
        clear hdd
        generalize w106.drew = w107 at B5 B10 B12 hbe hHeld hbL hbr ⊢
        refine wpAnyH_take (i := 0) (v := ?vqaf0) rfl (by kernel_rfl) (by kernel_rfl) (by kernel_rfl) (fun _ _ _ h => h) (Or.inl ⟨by rfl, ?yqaf0⟩) (by assumption) ?rqaf0
        case yqaf0 => intro w hSw; (try dsimp only at hSw); go_simp <;> (try with_reducible rfl)
        (try simp only [List.getElem_toArray, List.getElem_cons_zero, Act.put, List.setIfInBounds_toArray, List.set_cons_zero, List.set_cons_succ])
        refine wpAnyH_take (i := 1) (v := ?vqaf1) rfl (by kernel_rfl) (by kernel_rfl) (by kernel_rfl) (fun _ _ _ h => h) (Or.inl ⟨by rfl, ?yqaf1⟩) (by assumption) ?rqaf1
        case yqaf1 => intro w hSw; (try dsimp only at hSw); go_simp <;> (try with_reducible rfl)
        (try simp only [List.getElem_toArray, List.getElem_cons_succ, List.getElem_cons_zero, Act.put, List.setIfInBounds_toArray, List.set_cons_zero, List.set_cons_succ])
        refine' wpAnyH_take (i := 2) (v := _) rfl (by kernel_rfl) (by kernel_rfl) (by kernel_rfl) (fun _ _ _ h => h) (yieldsIf_load_mid (by rfl) _ _ (by rfl) _ _ (by rfl) _ _ ?Sqaf2 ?uqaf2 ?dqaf2 ?iqaf2) (by assumption) ?rqaf2
        case Sqaf2 => exact (by intro w h; exact h.1)
        case uqaf2 => exact Tryd.underlying33
        case dqaf2 => rfl
        case iqaf2 => exact zz10_1
        (try simp only [List.getElem_toArray, List.getElem_cons_succ, List.getElem_cons_zero, Act.put, List.setIfInBounds_toArray, List.set_cons_zero, List.set_cons_succ])
        refine' wpAnyH_take (i := 4) (v := _) rfl (by kernel_rfl) (by kernel_rfl) (by kernel_rfl) (fun _ _ _ h => h) (yieldsIf_load_mid (by rfl) _ _ (by rfl) _ _ (by rfl) _ _ ?Sqaf4 ?uqaf4 ?dqaf4 ?iqaf4) (by assumption) ?rqaf4
        case Sqaf4 => exact (by intro w h; exact h.1)
        case uqaf4 => exact Tryd.underlying33
        case dqaf4 => rfl
        case iqaf4 => exact zz10_1
        (try simp only [List.getElem_toArray, List.getElem_cons_succ, List.getElem_cons_zero, Act.put, List.setIfInBounds_toArray, List.set_cons_zero, List.set_cons_succ])
        refine wpAnyH_ready (rs := [3]) (by kernel_rfl) (by simp) ?_
        refine AllReadyH.cons rfl (fun K hK => ?_) AllReadyH.nil
        go_simp
        go_wp2_with fail
        (with_reducible refine (HM1.out _).mono ?_)
        rintro e w108 ⟨rfl, hb108⟩
        have B5 := B5.next hb108 B5.lt
        have B10 := B10.next hb108 B10.lt
        have B12 := B12.next hb108 B12.lt
        have hbe := below_join hbe hb108
        have hbL := below_join hbL hb108
        have hbr := below_join hbr hb108
        refine hK.out _ _ ⟨blk_range B10, blk_range B5⟩ (fun hHeld => ?_)
        clear hK K hb108
        refine wpAnyH_ready (rs := [5]) (by kernel_rfl) (by simp) ?_
        refine AllReadyH.cons rfl (fun K hK => ?_) AllReadyH.nil
        go_simp
        go_wp2_with fail
        (with_reducible refine (HM2.out _).mono ?_)
        rintro e w109 ⟨rfl, hb109⟩
        have B5 := B5.next hb109 B5.lt
        have B10 := B10.next hb109 B10.lt
        have B12 := B12.next hb109 B12.lt
        have hbe := below_join hbe hb109
        have hbL := below_join hbL hb109
        have hbr := below_join hbr hb109
        refine hK.out _ _ ⟨blk_range B10, blk_range B5⟩ (fun hHeld => ?_)
        clear hK K hb109
        refine wpAnyH_take (i := 6) (v := ?vqaf6) rfl (by kernel_rfl) (by kernel_rfl) (by kernel_rfl) (fun _ _ _ h => h) (Or.inl ⟨by rfl, ?yqaf6⟩) (by assumption) ?rqaf6
        case yqaf6 => intro w hSw; (try dsimp only at hSw); go_simp <;> (try with_reducible rfl)
        (try simp only [List.getElem_toArray, List.getElem_cons_succ, List.getElem_cons_zero, Act.put, List.setIfInBounds_toArray, List.set_cons_zero, List.set_cons_succ])
        refine wpAnyH_take (i := 7) (v := ?vqaf7) rfl (by kernel_rfl) (by kernel_rfl) (by kernel_rfl) (fun _ _ _ h => h) (Or.inl ⟨by rfl, ?yqaf7⟩) (by assumption) ?rqaf7
        case yqaf7 => intro w hSw; (try dsimp only at hSw); go_simp <;> (try with_reducible rfl)
        (try simp only [List.getElem_toArray, List.getElem_cons_succ, List.getElem_cons_zero, Act.put, List.setIfInBounds_toArray, List.set_cons_zero, List.set_cons_succ])
        refine' wpAnyH_take (i := 8) (v := _) rfl (by kernel_rfl) (by kernel_rfl) (by kernel_rfl) (fun _ _ _ h => h) (yieldsIf_load_mid (by rfl) _ _ (by rfl) _ _ (by rfl) _ _ ?Sqaf8 ?uqaf8 ?dqaf8 ?iqaf8) (by assumption) ?rqaf8
        case Sqaf8 => exact (by intro w h; exact h.1)
        case uqaf8 => exact Tryd.underlying33
        case dqaf8 => rfl
        case iqaf8 => exact zz10_1
        (try simp only [List.getElem_toArray, List.getElem_cons_succ, List.getElem_cons_zero, Act.put, List.setIfInBounds_toArray, List.set_cons_zero, List.set_cons_succ])
        refine' wpAnyH_take (i := 9) (v := _) rfl (by kernel_rfl) (by kernel_rfl) (by kernel_rfl) (fun _ _ _ h => h) (yieldsIf_load_mid (by rfl) _ _ (by rfl) _ _ (by rfl) _ _ ?Sqaf9 ?uqaf9 ?dqaf9 ?iqaf9) (by assumption) ?rqaf9
        case Sqaf9 => exact (by intro w h; exact h.2)
        case uqaf9 => exact Tryd.underlying30
        case dqaf9 => rfl
        case iqaf9 => exact zz5_2
        (try simp only [List.getElem_toArray, List.getElem_cons_succ, List.getElem_cons_zero, Act.put, List.setIfInBounds_toArray, List.set_cons_zero, List.set_cons_succ])
        refine' wpAnyH_take (i := 11) (v := _) rfl (by kernel_rfl) (by kernel_rfl) (by kernel_rfl) (fun _ _ _ h => h) (yieldsIf_load_mid (by rfl) _ _ (by rfl) _ _ (by rfl) _ _ ?Sqaf11 ?uqaf11 ?dqaf11 ?iqaf11) (by assumption) ?rqaf11
        case Sqaf11 => exact (by intro w h; exact h.1)
        case uqaf11 => exact Tryd.underlying33
        case dqaf11 => rfl
        case iqaf11 => exact zz10_1
        (try simp only [List.getElem_toArray, List.getElem_cons_succ, List.getElem_cons_zero, Act.put, List.setIfInBounds_toArray, List.set_cons_zero, List.set_cons_succ])
        refine' wpAnyH_take (i := 12) (v := _) rfl (by kernel_rfl) (by kernel_rfl) (by kernel_rfl) (fun _ _ _ h => h) (yieldsIf_load_mid (by rfl) _ _ (by rfl) _ _ (by rfl) _ _ ?Sqaf12 ?uqaf12 ?dqaf12 ?iqaf12) (by assumption) ?rqaf12
        case Sqaf12 => exact (by intro w h; exact h.2)
        case uqaf12 => exact Tryd.underlying30
        case dqaf12 => rfl
        case iqaf12 => exact zz5_2
        (try simp only [List.getElem_toArray, List.getElem_cons_succ, List.getElem_cons_zero, Act.put, List.setIfInBounds_toArray, List.set_cons_zero, List.set_cons_succ])
        refine wpAnyH_ready (rs := [10]) (by kernel_rfl) (by simp) ?_
        refine AllReadyH.cons rfl (fun K hK => ?_) AllReadyH.nil
        go_simp
        go_wp2_with fail
        (with_reducible refine (HT1.out _).mono ?_)
        rintro e w110 ⟨rfl, hb110⟩
        have B5 := B5.next hb110 B5.lt
        have B10 := B10.next hb110 B10.lt
        have B12 := B12.next hb110 B12.lt
        have hbe := below_join hbe hb110
        have hbL := below_join hbL hb110
        have hbr := below_join hbr hb110
        refine hK.out _ _ ⟨blk_range B10, blk_range B5⟩ (fun hHeld => ?_)
        clear hK K hb110
        refine wpAnyH_ready (rs := [13]) (by kernel_rfl) (by simp) ?_
        refine AllReadyH.cons rfl (fun K hK => ?_) AllReadyH.nil
        go_simp
        go_wp2_with fail
        (with_reducible refine (HT2.out _).mono ?_)
        rintro e w111 ⟨rfl, hb111⟩
        have B5 := B5.next hb111 B5.lt
        have B10 := B10.next hb111 B10.lt
        have B12 := B12.next hb111 B12.lt
        have hbe := below_join hbe hb111
        have hbL := below_join hbL hb111
        have hbr := below_join hbr hb111
        refine hK.out _ _ ⟨blk_range B10, blk_range B5⟩ (fun hHeld => ?_)
        clear hK K hb111
        refine wpAnyH_take (i := 14) (v := ?vqaf14) rfl (by kernel_rfl) (by kernel_rfl) (by kernel_rfl) (fun _ _ _ h => h) (Or.inl ⟨by rfl, ?yqaf14⟩) (by assumption) ?rqaf14
        case yqaf14 => intro w hSw; (try dsimp only at hSw); go_simp <;> (try with_reducible rfl)
        (try simp only [List.getElem_toArray, List.getElem_cons_succ, List.getElem_cons_zero, Act.put, List.setIfInBounds_toArray, List.set_cons_zero, List.set_cons_succ])
        refine wpAnyH_take (i := 15) (v := ?vqaf15) rfl (by kernel_rfl) (by kernel_rfl) (by kernel_rfl) (fun _ _ _ h => h) (Or.inl ⟨by rfl, ?yqaf15⟩) (by assumption) ?rqaf15
        case yqaf15 => intro w hSw; (try dsimp only at hSw); go_simp <;> (try with_reducible rfl)
        (try simp only [List.getElem_toArray, List.getElem_cons_succ, List.getElem_cons_zero, Act.put, List.setIfInBounds_toArray, List.set_cons_zero, List.set_cons_succ])
        refine wpAnyH_take (i := 16) (v := ?vqaf16) rfl (by kernel_rfl) (by kernel_rfl) (by kernel_rfl) (fun _ _ _ h => h) (Or.inl ⟨by rfl, ?yqaf16⟩) (by assumption) ?rqaf16
        case yqaf16 => intro w hSw; (try dsimp only at hSw); go_simp <;> (try with_reducible rfl)
        (try simp only [List.getElem_toArray, List.getElem_cons_succ, List.getElem_cons_zero, Act.put, List.setIfInBounds_toArray, List.set_cons_zero, List.set_cons_succ])
        refine wpAnyH_done (by kernel_rfl) ?_ _
        clear hHeld zz10_1 zz5_2
        clear B10 B12 B5
        go_wp2
        go_roundw
        case rel => exact ⟨k + 1, by omega, by go_num, hbL⟩
        case measure => simp [intOf]; omega
    · obtain rfl : n = k := by omega
      have hnk : decide ((n : Int) < (n : Int)) = false := decide_eq_false (by omega)
      clear HF1 HF2 HGE HR hbL HBE
      obtain ⟨K, hK⟩ : ∃ K, keyL l h ns = K := ⟨_, rfl⟩
      rw [hK] at HK1 HK2
      have HVL : Hid (∀ vs, K = some vs → vs.length ≤ 140737488355328) := (by
        have : ∀ vs, K = some vs → vs.length ≤ 140737488355328 := fun vs e => by
          have := keyL_len (hK.trans e)
          have := hNS.out
          omega
        exact this)
      clear hK
      cases K with
      | none =>
        have HG1 : Hid (∀ w', FsAt w' A l → StAt w' B ns → Calls Tryd.prog 20 #[.slice A m c, .slice B n d, .agg (H h).toArray] w' fun e w'' => e = .returned (.tuple #[.slice none 0 0, .bool false]) ∧ Below w'.heap.size w' w'') := HK1
        have HG2 : Hid (∀ w', FsAt w' A l → StAt w' B ns → Calls Tryd.prog 21 #[.slice A m c, .slice B n d, .agg (H h).toArray] w' fun e w'' => e = .returned (.tuple #[.slice none 0 0, .bool false]) ∧ Below w'.heap.size w' w'') := HK2
        have HI0 : Hid (∀ w', Calls Tryd.prog 22 #[.slice none 0 0, .slice none 0 0] w' fun e w'' => e = .returned (.bool true) ∧ Below w'.heap.size w' w'') := (by
          have : ∀ w', Calls Tryd.prog 22 #[.slice none 0 0, .slice none 0 0] w' fun e w'' => e = .returned (.bool true) ∧ Below w'.heap.size w' w'' := fun w' => by
            have := sameI_any none none 0 0 [] [] w' (by decide) (by decide) (fun k x hx => by cases hx) (fun k x hx => by cases hx)
            exact this
          exact this)
        clear HK1 HK2
        go_wp2_with (first | (with_reducible refine wpList_getg (o := ⟨some 86, .load 30 (.tmp 5), _, _, _, _⟩) (by with_unfolding_all rfl) 30 (.tmp 5) (by with_unfolding_all rfl) g5 0 (by with_unfolding_all rfl) B5 (H h) (cs_all _) _ (by exact Tryd.underlying30) (by with_unfolding_all rfl) (by first | exact Tryd.szH | (simp only [H_length, Pat.cells_length, List.length_append]; exact Tryd.szH)) ?_))
        (with_reducible refine (HG1.out _ (HS.out.next hbe) (HT.out.next hbe)).mono ?_)
        rintro e w301 ⟨rfl, hb301⟩
        have B5 := B5.next hb301 B5.lt
        have hbe := below_join hbe hb301
        clear hb301
        go_wp2_with (first | (with_reducible refine wpList_getg (o := ⟨some 93, .load 30 (.tmp 5), _, _, _, _⟩) (by with_unfolding_all rfl) 30 (.tmp 5) (by with_unfolding_all rfl) g5 0 (by with_unfolding_all rfl) B5 (H h) (cs_all _) _ (by exact Tryd.underlying30) (by with_unfolding_all rfl) (by first | exact Tryd.szH | (simp only [H_length, Pat.cells_length, List.length_append]; exact Tryd.szH)) ?_))
        (with_reducible refine (HG2.out _ (HS.out.next hbe) (HT.out.next hbe)).mono ?_)
        rintro e w302 ⟨rfl, hb302⟩
        have B5 := B5.next hb302 B5.lt
        have hbe := below_join hbe hb302
        clear hb302
        go_wp2
        have hdd := below_drew w302
        have B5 := B5.next hdd B5.lt
        have hbe := below_join hbe hdd
        have zz5_1 : (Tryd.prog.info? 30).map (·.size) = some (H h).length := (by first | exact Tryd.szH | (simp only [H_length, Pat.cells_length, List.length_append]; exact Tryd.szH))
        refine wp_region_held_drew (S := fun w' => w'.rangeAt g5 0 (H h)) (by kernel_rfl) (blk_range B5) (fun hHeld => ?_)
        clear hdd
        generalize w302.drew = w303 at B5 hbe hHeld  ⊢
        refine wpAnyH_ready (rs := [0]) (by kernel_rfl) (by simp) ?_
        refine AllReadyH.cons rfl (fun K hK => ?_) AllReadyH.nil
        go_simp
        go_wp2_with fail
        (with_reducible refine (HSA.out _ (HQ.out.next hbe)).mono ?_)
        rintro e w304 ⟨rfl, hb304⟩
        have B5 := B5.next hb304 B5.lt
        have hbe := below_join hbe hb304
        refine hK.out _ _ (blk_range B5) (fun hHeld => ?_)
        clear hK K hb304
        refine wpAnyH_take (i := 1) (v := ?vqag1) rfl (by kernel_rfl) (by kernel_rfl) (by kernel_rfl) (fun _ _ _ h => h) (Or.inl ⟨by rfl, ?yqag1⟩) (by assumption) ?rqag1
        case yqag1 => intro w hSw; (try dsimp only at hSw); go_simp <;> (try with_reducible rfl)
        (try simp only [List.getElem_toArray, List.getElem_cons_succ, List.getElem_cons_zero, Act.put, List.setIfInBounds_toArray, List.set_cons_zero, List.set_cons_succ])
        refine wpAnyH_take (i := 2) (v := ?vqag2) rfl (by kernel_rfl) (by kernel_rfl) (by kernel_rfl) (fun _ _ _ h => h) (Or.inl ⟨by rfl, ?yqag2⟩) (by assumption) ?rqag2
        case yqag2 => intro w hSw; (try dsimp only at hSw); go_simp <;> (try with_reducible rfl)
        (try simp only [List.getElem_toArray, List.getElem_cons_succ, List.getElem_cons_zero, Act.put, List.setIfInBounds_toArray, List.set_cons_zero, List.set_cons_succ])
        refine wpAnyH_take (i := 3) (v := ?vqag3) rfl (by kernel_rfl) (by kernel_rfl) (by kernel_rfl) (fun _ _ _ h => h) (Or.inl ⟨by rfl, ?yqag3⟩) (by assumption) ?rqag3
        case yqag3 => intro w hSw; (try dsimp only at hSw); go_simp <;> (try with_reducible rfl)
        (try simp only [List.getElem_toArray, List.getElem_cons_succ, List.getElem_cons_zero, Act.put, List.setIfInBounds_toArray, List.set_cons_zero, List.set_cons_succ])
        refine wpAnyH_ready (rs := [4]) (by kernel_rfl) (by simp) ?_
        refine AllReadyH.cons rfl (fun K hK => ?_) AllReadyH.nil
        go_simp
        go_wp2_with fail
        (with_reducible refine (HI0.out _).mono ?_)
        rintro e w305 ⟨rfl, hb305⟩
        have B5 := B5.next hb305 B5.lt
        have hbe := below_join hbe hb305
        refine hK.out _ _ (blk_range B5) (fun hHeld => ?_)
        clear hK K hb305
        refine wpAnyH_take (i := 5) (v := ?vqag5) rfl (by kernel_rfl) (by kernel_rfl) (by kernel_rfl) (fun _ _ _ h => h) (Or.inl ⟨by rfl, ?yqag5⟩) (by assumption) ?rqag5
        case yqag5 => intro w hSw; (try dsimp only at hSw); go_simp <;> (try with_reducible rfl)
        (try simp only [List.getElem_toArray, List.getElem_cons_succ, List.getElem_cons_zero, Act.put, List.setIfInBounds_toArray, List.set_cons_zero, List.set_cons_succ])
        refine wpAnyH_take (i := 6) (v := ?vqag6) rfl (by kernel_rfl) (by kernel_rfl) (by kernel_rfl) (fun _ _ _ h => h) (Or.inl ⟨by rfl, ?yqag6⟩) (by assumption) ?rqag6
        case yqag6 => intro w hSw; (try dsimp only at hSw); go_simp <;> (try with_reducible rfl)
        (try simp only [List.getElem_toArray, List.getElem_cons_succ, List.getElem_cons_zero, Act.put, List.setIfInBounds_toArray, List.set_cons_zero, List.set_cons_succ])
        refine wpAnyH_take (i := 7) (v := ?vqag7) rfl (by kernel_rfl) (by kernel_rfl) (by kernel_rfl) (fun _ _ _ h => h) (Or.inl ⟨by rfl, ?yqag7⟩) (by assumption) ?rqag7
        case yqag7 => intro w hSw; (try dsimp only at hSw); go_simp <;> (try with_reducible rfl)
        (try simp only [List.getElem_toArray, List.getElem_cons_succ, List.getElem_cons_zero, Act.put, List.setIfInBounds_toArray, List.set_cons_zero, List.set_cons_succ])
        refine wpAnyH_take (i := 8) (v := ?vqag8) rfl (by kernel_rfl) (by kernel_rfl) (by kernel_rfl) (fun _ _ _ h => h) (Or.inl ⟨by rfl, ?yqag8⟩) (by assumption) ?rqag8
        case yqag8 => intro w hSw; (try dsimp only at hSw); go_simp <;> (try with_reducible rfl)
        (try simp only [List.getElem_toArray, List.getElem_cons_succ, List.getElem_cons_zero, Act.put, List.setIfInBounds_toArray, List.set_cons_zero, List.set_cons_succ])
        refine wpAnyH_take (i := 9) (v := ?vqag9) rfl (by kernel_rfl) (by kernel_rfl) (by kernel_rfl) (fun _ _ _ h => h) (Or.inl ⟨by rfl, ?yqag9⟩) (by assumption) ?rqag9
        case yqag9 => intro w hSw; (try dsimp only at hSw); go_simp <;> (try with_reducible rfl)
        (try simp only [List.getElem_toArray, List.getElem_cons_succ, List.getElem_cons_zero, Act.put, List.setIfInBounds_toArray, List.set_cons_zero, List.set_cons_succ])
        refine wpAnyH_take (i := 10) (v := ?vqag10) rfl (by kernel_rfl) (by kernel_rfl) (by kernel_rfl) (fun _ _ _ h => h) (Or.inl ⟨by rfl, ?yqag10⟩) (by assumption) ?rqag10
        case yqag10 => intro w hSw; (try dsimp only at hSw); go_simp <;> (try with_reducible rfl)
        (try simp only [List.getElem_toArray, List.getElem_cons_succ, List.getElem_cons_zero, Act.put, List.setIfInBounds_toArray, List.set_cons_zero, List.set_cons_succ])
        refine wpAnyH_take (i := 11) (v := ?vqag11) rfl (by kernel_rfl) (by kernel_rfl) (by kernel_rfl) (fun _ _ _ h => h) (Or.inl ⟨by rfl, ?yqag11⟩) (by assumption) ?rqag11
        case yqag11 => intro w hSw; (try dsimp only at hSw); go_simp <;> (try with_reducible rfl)
        (try simp only [List.getElem_toArray, List.getElem_cons_succ, List.getElem_cons_zero, Act.put, List.setIfInBounds_toArray, List.set_cons_zero, List.set_cons_succ])
        refine wpAnyH_take (i := 12) (v := ?vqag12) rfl (by kernel_rfl) (by kernel_rfl) (by kernel_rfl) (fun _ _ _ h => h) (Or.inl ⟨by rfl, ?yqag12⟩) (by assumption) ?rqag12
        case yqag12 => intro w hSw; (try dsimp only at hSw); go_simp <;> (try with_reducible rfl)
        (try simp only [List.getElem_toArray, List.getElem_cons_succ, List.getElem_cons_zero, Act.put, List.setIfInBounds_toArray, List.set_cons_zero, List.set_cons_succ])
        refine' wpAnyH_take (i := 13) (v := _) rfl (by kernel_rfl) (by kernel_rfl) (by kernel_rfl) (fun _ _ _ h => h) (yieldsIf_load_mid (by rfl) _ _ (by rfl) _ _ (by rfl) _ _ ?Sqag13 ?uqag13 ?dqag13 ?iqag13) (by assumption) ?rqag13
        case Sqag13 => exact (by intro w h; exact h)
        case uqag13 => exact Tryd.underlying30
        case dqag13 => rfl
        case iqag13 => exact zz5_1
        (try simp only [List.getElem_toArray, List.getElem_cons_succ, List.getElem_cons_zero, Act.put, List.setIfInBounds_toArray, List.set_cons_zero, List.set_cons_succ])
        refine wpAnyH_take (i := 15) (v := ?vqag15) rfl (by kernel_rfl) (by kernel_rfl) (by kernel_rfl) (fun _ _ _ h => h) (Or.inl ⟨by rfl, ?yqag15⟩) (by assumption) ?rqag15
        case yqag15 => intro w hSw; (try dsimp only at hSw); go_simp <;> (try with_reducible rfl)
        (try simp only [List.getElem_toArray, List.getElem_cons_succ, List.getElem_cons_zero, Act.put, List.setIfInBounds_toArray, List.set_cons_zero, List.set_cons_succ])
        refine' wpAnyH_take (i := 16) (v := _) rfl (by kernel_rfl) (by kernel_rfl) (by kernel_rfl) (fun _ _ _ h => h) (yieldsIf_load_mid (by rfl) _ _ (by rfl) _ _ (by rfl) _ _ ?Sqag16 ?uqag16 ?dqag16 ?iqag16) (by assumption) ?rqag16
        case Sqag16 => exact (by intro w h; exact h)
        case uqag16 => exact Tryd.underlying30
        case dqag16 => rfl
        case iqag16 => exact zz5_1
        (try simp only [List.getElem_toArray, List.getElem_cons_succ, List.getElem_cons_zero, Act.put, List.setIfInBounds_toArray, List.set_cons_zero, List.set_cons_succ])
        refine wpAnyH_ready (rs := [14]) (by kernel_rfl) (by simp) ?_
        refine AllReadyH.cons rfl (fun K hK => ?_) AllReadyH.nil
        go_simp
        go_wp2_with fail
        (with_reducible refine (HH1.out _ (HS.out.next hbe) (HQ.out.next hbe)).mono ?_)
        rintro e w306 ⟨rfl, hb306⟩
        have B5 := B5.next hb306 B5.lt
        have hbe := below_join hbe hb306
        refine hK.out _ _ (blk_range B5) (fun hHeld => ?_)
        clear hK K hb306
        refine wpAnyH_ready (rs := [17]) (by kernel_rfl) (by simp) ?_
        refine AllReadyH.cons rfl (fun K hK => ?_) AllReadyH.nil
        go_simp
        go_wp2_with fail
        (with_reducible refine (HH2.out _ (HS.out.next hbe) (HQ.out.next hbe)).mono ?_)
        rintro e w307 ⟨rfl, hb307⟩
        have B5 := B5.next hb307 B5.lt
        have hbe := below_join hbe hb307
        refine hK.out _ _ (blk_range B5) (fun hHeld => ?_)
        clear hK K hb307
        refine wpAnyH_take (i := 18) (v := ?vqag18) rfl (by kernel_rfl) (by kernel_rfl) (by kernel_rfl) (fun _ _ _ h => h) (Or.inl ⟨by rfl, ?yqag18⟩) (by assumption) ?rqag18
        case yqag18 => intro w hSw; (try dsimp only at hSw); go_simp <;> (try with_reducible rfl)
        (try simp only [List.getElem_toArray, List.getElem_cons_succ, List.getElem_cons_zero, Act.put, List.setIfInBounds_toArray, List.set_cons_zero, List.set_cons_succ])
        refine wpAnyH_take (i := 19) (v := ?vqag19) rfl (by kernel_rfl) (by kernel_rfl) (by kernel_rfl) (fun _ _ _ h => h) (Or.inl ⟨by rfl, ?yqag19⟩) (by assumption) ?rqag19
        case yqag19 => intro w hSw; (try dsimp only at hSw); go_simp <;> (try with_reducible rfl)
        (try simp only [List.getElem_toArray, List.getElem_cons_succ, List.getElem_cons_zero, Act.put, List.setIfInBounds_toArray, List.set_cons_zero, List.set_cons_succ])
        refine wpAnyH_take (i := 20) (v := ?vqag20) rfl (by kernel_rfl) (by kernel_rfl) (by kernel_rfl) (fun _ _ _ h => h) (Or.inl ⟨by rfl, ?yqag20⟩) (by assumption) ?rqag20
        case yqag20 => intro w hSw; (try dsimp only at hSw); go_simp <;> (try with_reducible rfl)
        (try simp only [List.getElem_toArray, List.getElem_cons_succ, List.getElem_cons_zero, Act.put, List.setIfInBounds_toArray, List.set_cons_zero, List.set_cons_succ])
        refine wpAnyH_done (by kernel_rfl) ?_ _
        clear hHeld zz5_1
        go_wp2
        go_ret
        exact ⟨rfl, hbe⟩
      | some vs =>
        have hvl : vs.length ≤ 140737488355328 := HVL.out vs rfl
        obtain ⟨v, hv⟩ : ∃ v, vs.length = v := ⟨_, rfl⟩
        have HG1 : Hid (∀ w', FsAt w' A l → StAt w' B ns → Calls Tryd.prog 20 #[.slice A m c, .slice B n d, .agg (H h).toArray] w' fun e w'' => ∃ A1 c1, (e = .returned (.tuple #[.slice A1 v c1, .bool true]) ∧ IsAt w'' A1 vs) ∧ Below w'.heap.size w' w'') := (by
          have : ∀ w', FsAt w' A l → StAt w' B ns → Calls Tryd.prog 20 #[.slice A m c, .slice B n d, .agg (H h).toArray] w' fun e w'' => ∃ A1 c1, (e = .returned (.tuple #[.slice A1 v c1, .bool true]) ∧ IsAt w'' A1 vs) ∧ Below w'.heap.size w' w'' := fun w' hh ht => (HK1.out w' hh ht).mono fun e w'' ⟨⟨A1, c1, he, ho⟩, hb⟩ => ⟨A1, c1, ⟨by rw [he, hv], own_ints ho⟩, hb⟩
          exact this)
        have HG2 : Hid (∀ w', FsAt w' A l → StAt w' B ns → Calls Tryd.prog 21 #[.slice A m c, .slice B n d, .agg (H h).toArray] w' fun e w'' => ∃ A1 c1, (e = .returned (.tuple #[.slice A1 v c1, .bool true]) ∧ IsAt w'' A1 vs) ∧ Below w'.heap.size w' w'') := (by
          have : ∀ w', FsAt w' A l → StAt w' B ns → Calls Tryd.prog 21 #[.slice A m c, .slice B n d, .agg (H h).toArray] w' fun e w'' => ∃ A1 c1, (e = .returned (.tuple #[.slice A1 v c1, .bool true]) ∧ IsAt w'' A1 vs) ∧ Below w'.heap.size w' w'' := fun w' hh ht => (HK2.out w' hh ht).mono fun e w'' ⟨⟨A1, c1, he, ho⟩, hb⟩ => ⟨A1, c1, ⟨by rw [he, hv], own_ints ho⟩, hb⟩
          exact this)
        have HI0 : Hid (∀ A1 A2 c1 c2 w', IsAt w' A1 vs → IsAt w' A2 vs → Calls Tryd.prog 22 #[.slice A1 v c1, .slice A2 v c2] w' fun e w'' => e = .returned (.bool true) ∧ Below w'.heap.size w' w'') := (by
          have : ∀ A1 A2 c1 c2 w', IsAt w' A1 vs → IsAt w' A2 vs → Calls Tryd.prog 22 #[.slice A1 v c1, .slice A2 v c2] w' fun e w'' => e = .returned (.bool true) ∧ Below w'.heap.size w' w'' := fun A1 A2 c1 c2 w' i1 i2 => by
            have := sameI_any A1 A2 c1 c2 vs vs w' hvl hvl i1 i2
            rw [decide_eq_true rfl, hv] at this
            exact this
          exact this)
        clear HK1 HK2 HVL hvl
        go_wp2_with (first | (with_reducible refine wpList_getg (o := ⟨some 86, .load 30 (.tmp 5), _, _, _, _⟩) (by with_unfolding_all rfl) 30 (.tmp 5) (by with_unfolding_all rfl) g5 0 (by with_unfolding_all rfl) B5 (H h) (cs_all _) _ (by exact Tryd.underlying30) (by with_unfolding_all rfl) (by first | exact Tryd.szH | (simp only [H_length, Pat.cells_length, List.length_append]; exact Tryd.szH)) ?_))
        (with_reducible refine (HG1.out _ (HS.out.next hbe) (HT.out.next hbe)).mono ?_)
        rintro e w301 ⟨A1, c1, ⟨rfl, M1⟩, hb301⟩
        have B5 := B5.next hb301 B5.lt
        have hbe := below_join hbe hb301
        clear hb301
        have M1 := Lib.hid M1
        go_wp2_with (first | (with_reducible refine wpList_getg (o := ⟨some 93, .load 30 (.tmp 5), _, _, _, _⟩) (by with_unfolding_all rfl) 30 (.tmp 5) (by with_unfolding_all rfl) g5 0 (by with_unfolding_all rfl) B5 (H h) (cs_all _) _ (by exact Tryd.underlying30) (by with_unfolding_all rfl) (by first | exact Tryd.szH | (simp only [H_length, Pat.cells_length, List.length_append]; exact Tryd.szH)) ?_))
        (with_reducible refine (HG2.out _ (HS.out.next hbe) (HT.out.next hbe)).mono ?_)
        rintro e w302 ⟨A2, c2, ⟨rfl, M2⟩, hb302⟩
        have B5 := B5.next hb302 B5.lt
        have M1 := Lib.hid (M1.out.next hb302)
        have hbe := below_join hbe hb302
        clear hb302
        have M2 := Lib.hid M2
        go_wp2
        have hdd := below_drew w302
        have B5 := B5.next hdd B5.lt
        have M1 := Lib.hid (M1.out.next hdd)
        have M2 := Lib.hid (M2.out.next hdd)
        have hbe := below_join hbe hdd
        have zz5_1 : (Tryd.prog.info? 30).map (·.size) = some (H h).length := (by first | exact Tryd.szH | (simp only [H_length, Pat.cells_length, List.length_append]; exact Tryd.szH))
        refine wp_region_held_drew (S := fun w' => w'.rangeAt g5 0 (H h)) (by kernel_rfl) (blk_range B5) (fun hHeld => ?_)
        clear hdd
        generalize w302.drew = w303 at B5 hbe hHeld M1 M2 ⊢
        refine wpAnyH_ready (rs := [0]) (by kernel_rfl) (by simp) ?_
        refine AllReadyH.cons rfl (fun K hK => ?_) AllReadyH.nil
        go_simp
        go_wp2_with fail
        (with_reducible refine (HSA.out _ (HQ.out.next hbe)).mono ?_)
        rintro e w304 ⟨rfl, hb304⟩
        have B5 := B5.next hb304 B5.lt
        have M1 := Lib.hid (M1.out.next hb304)
        have M2 := Lib.hid (M2.out.next hb304)
        have hbe := below_join hbe hb304
        refine hK.out _ _ (blk_range B5) (fun hHeld => ?_)
        clear hK K hb304
        refine wpAnyH_take (i := 1) (v := ?vqah1) rfl (by kernel_rfl) (by kernel_rfl) (by kernel_rfl) (fun _ _ _ h => h) (Or.inl ⟨by rfl, ?yqah1⟩) (by assumption) ?rqah1
        case yqah1 => intro w hSw; (try dsimp only at hSw); go_simp <;> (try with_reducible rfl)
        (try simp only [List.getElem_toArray, List.getElem_cons_succ, List.getElem_cons_zero, Act.put, List.setIfInBounds_toArray, List.set_cons_zero, List.set_cons_succ])
        refine wpAnyH_take (i := 2) (v := ?vqah2) rfl (by kernel_rfl) (by kernel_rfl) (by kernel_rfl) (fun _ _ _ h => h) (Or.inl ⟨by rfl, ?yqah2⟩) (by assumption) ?rqah2
        case yqah2 => intro w hSw; (try dsimp only at hSw); go_simp <;> (try with_reducible rfl)
        (try simp only [List.getElem_toArray, List.getElem_cons_succ, List.getElem_cons_zero, Act.put, List.setIfInBounds_toArray, List.set_cons_zero, List.set_cons_succ])
        refine wpAnyH_take (i := 3) (v := ?vqah3) rfl (by kernel_rfl) (by kernel_rfl) (by kernel_rfl) (fun _ _ _ h => h) (Or.inl ⟨by rfl, ?yqah3⟩) (by assumption) ?rqah3
        case yqah3 => intro w hSw; (try dsimp only at hSw); go_simp <;> (try with_reducible rfl)
        (try simp only [List.getElem_toArray, List.getElem_cons_succ, List.getElem_cons_zero, Act.put, List.setIfInBounds_toArray, List.set_cons_zero, List.set_cons_succ])
        refine wpAnyH_ready (rs := [4]) (by kernel_rfl) (by simp) ?_
        refine AllReadyH.cons rfl (fun K hK => ?_) AllReadyH.nil
        go_simp
        go_wp2_with fail
        (with_reducible refine (HI0.out _ _ _ _ _ M1.out M2.out).mono ?_)
        rintro e w305 ⟨rfl, hb305⟩
        have B5 := B5.next hb305 B5.lt
        have M1 := Lib.hid (M1.out.next hb305)
        have M2 := Lib.hid (M2.out.next hb305)
        have hbe := below_join hbe hb305
        refine hK.out _ _ (blk_range B5) (fun hHeld => ?_)
        clear hK K hb305
        refine wpAnyH_take (i := 5) (v := ?vqah5) rfl (by kernel_rfl) (by kernel_rfl) (by kernel_rfl) (fun _ _ _ h => h) (Or.inl ⟨by rfl, ?yqah5⟩) (by assumption) ?rqah5
        case yqah5 => intro w hSw; (try dsimp only at hSw); go_simp <;> (try with_reducible rfl)
        (try simp only [List.getElem_toArray, List.getElem_cons_succ, List.getElem_cons_zero, Act.put, List.setIfInBounds_toArray, List.set_cons_zero, List.set_cons_succ])
        refine wpAnyH_take (i := 6) (v := ?vqah6) rfl (by kernel_rfl) (by kernel_rfl) (by kernel_rfl) (fun _ _ _ h => h) (Or.inl ⟨by rfl, ?yqah6⟩) (by assumption) ?rqah6
        case yqah6 => intro w hSw; (try dsimp only at hSw); go_simp <;> (try with_reducible rfl)
        (try simp only [List.getElem_toArray, List.getElem_cons_succ, List.getElem_cons_zero, Act.put, List.setIfInBounds_toArray, List.set_cons_zero, List.set_cons_succ])
        refine wpAnyH_take (i := 7) (v := ?vqah7) rfl (by kernel_rfl) (by kernel_rfl) (by kernel_rfl) (fun _ _ _ h => h) (Or.inl ⟨by rfl, ?yqah7⟩) (by assumption) ?rqah7
        case yqah7 => intro w hSw; (try dsimp only at hSw); go_simp <;> (try with_reducible rfl)
        (try simp only [List.getElem_toArray, List.getElem_cons_succ, List.getElem_cons_zero, Act.put, List.setIfInBounds_toArray, List.set_cons_zero, List.set_cons_succ])
        refine wpAnyH_take (i := 8) (v := ?vqah8) rfl (by kernel_rfl) (by kernel_rfl) (by kernel_rfl) (fun _ _ _ h => h) (Or.inl ⟨by rfl, ?yqah8⟩) (by assumption) ?rqah8
        case yqah8 => intro w hSw; (try dsimp only at hSw); go_simp <;> (try with_reducible rfl)
        (try simp only [List.getElem_toArray, List.getElem_cons_succ, List.getElem_cons_zero, Act.put, List.setIfInBounds_toArray, List.set_cons_zero, List.set_cons_succ])
        refine wpAnyH_take (i := 9) (v := ?vqah9) rfl (by kernel_rfl) (by kernel_rfl) (by kernel_rfl) (fun _ _ _ h => h) (Or.inl ⟨by rfl, ?yqah9⟩) (by assumption) ?rqah9
        case yqah9 => intro w hSw; (try dsimp only at hSw); go_simp <;> (try with_reducible rfl)
        (try simp only [List.getElem_toArray, List.getElem_cons_succ, List.getElem_cons_zero, Act.put, List.setIfInBounds_toArray, List.set_cons_zero, List.set_cons_succ])
        refine wpAnyH_take (i := 10) (v := ?vqah10) rfl (by kernel_rfl) (by kernel_rfl) (by kernel_rfl) (fun _ _ _ h => h) (Or.inl ⟨by rfl, ?yqah10⟩) (by assumption) ?rqah10
        case yqah10 => intro w hSw; (try dsimp only at hSw); go_simp <;> (try with_reducible rfl)
        (try simp only [List.getElem_toArray, List.getElem_cons_succ, List.getElem_cons_zero, Act.put, List.setIfInBounds_toArray, List.set_cons_zero, List.set_cons_succ])
        refine wpAnyH_take (i := 11) (v := ?vqah11) rfl (by kernel_rfl) (by kernel_rfl) (by kernel_rfl) (fun _ _ _ h => h) (Or.inl ⟨by rfl, ?yqah11⟩) (by assumption) ?rqah11
        case yqah11 => intro w hSw; (try dsimp only at hSw); go_simp <;> (try with_reducible rfl)
        (try simp only [List.getElem_toArray, List.getElem_cons_succ, List.getElem_cons_zero, Act.put, List.setIfInBounds_toArray, List.set_cons_zero, List.set_cons_succ])
        refine wpAnyH_take (i := 12) (v := ?vqah12) rfl (by kernel_rfl) (by kernel_rfl) (by kernel_rfl) (fun _ _ _ h => h) (Or.inl ⟨by rfl, ?yqah12⟩) (by assumption) ?rqah12
        case yqah12 => intro w hSw; (try dsimp only at hSw); go_simp <;> (try with_reducible rfl)
        (try simp only [List.getElem_toArray, List.getElem_cons_succ, List.getElem_cons_zero, Act.put, List.setIfInBounds_toArray, List.set_cons_zero, List.set_cons_succ])
        refine' wpAnyH_take (i := 13) (v := _) rfl (by kernel_rfl) (by kernel_rfl) (by kernel_rfl) (fun _ _ _ h => h) (yieldsIf_load_mid (by rfl) _ _ (by rfl) _ _ (by rfl) _ _ ?Sqah13 ?uqah13 ?dqah13 ?iqah13) (by assumption) ?rqah13
        case Sqah13 => exact (by intro w h; exact h)
        case uqah13 => exact Tryd.underlying30
        case dqah13 => rfl
        case iqah13 => exact zz5_1
        (try simp only [List.getElem_toArray, List.getElem_cons_succ, List.getElem_cons_zero, Act.put, List.setIfInBounds_toArray, List.set_cons_zero, List.set_cons_succ])
        refine wpAnyH_take (i := 15) (v := ?vqah15) rfl (by kernel_rfl) (by kernel_rfl) (by kernel_rfl) (fun _ _ _ h => h) (Or.inl ⟨by rfl, ?yqah15⟩) (by assumption) ?rqah15
        case yqah15 => intro w hSw; (try dsimp only at hSw); go_simp <;> (try with_reducible rfl)
        (try simp only [List.getElem_toArray, List.getElem_cons_succ, List.getElem_cons_zero, Act.put, List.setIfInBounds_toArray, List.set_cons_zero, List.set_cons_succ])
        refine' wpAnyH_take (i := 16) (v := _) rfl (by kernel_rfl) (by kernel_rfl) (by kernel_rfl) (fun _ _ _ h => h) (yieldsIf_load_mid (by rfl) _ _ (by rfl) _ _ (by rfl) _ _ ?Sqah16 ?uqah16 ?dqah16 ?iqah16) (by assumption) ?rqah16
        case Sqah16 => exact (by intro w h; exact h)
        case uqah16 => exact Tryd.underlying30
        case dqah16 => rfl
        case iqah16 => exact zz5_1
        (try simp only [List.getElem_toArray, List.getElem_cons_succ, List.getElem_cons_zero, Act.put, List.setIfInBounds_toArray, List.set_cons_zero, List.set_cons_succ])
        refine wpAnyH_ready (rs := [14]) (by kernel_rfl) (by simp) ?_
        refine AllReadyH.cons rfl (fun K hK => ?_) AllReadyH.nil
        go_simp
        go_wp2_with fail
        (with_reducible refine (HH1.out _ (HS.out.next hbe) (HQ.out.next hbe)).mono ?_)
        rintro e w306 ⟨rfl, hb306⟩
        have B5 := B5.next hb306 B5.lt
        have M1 := Lib.hid (M1.out.next hb306)
        have M2 := Lib.hid (M2.out.next hb306)
        have hbe := below_join hbe hb306
        refine hK.out _ _ (blk_range B5) (fun hHeld => ?_)
        clear hK K hb306
        refine wpAnyH_ready (rs := [17]) (by kernel_rfl) (by simp) ?_
        refine AllReadyH.cons rfl (fun K hK => ?_) AllReadyH.nil
        go_simp
        go_wp2_with fail
        (with_reducible refine (HH2.out _ (HS.out.next hbe) (HQ.out.next hbe)).mono ?_)
        rintro e w307 ⟨rfl, hb307⟩
        have B5 := B5.next hb307 B5.lt
        have M1 := Lib.hid (M1.out.next hb307)
        have M2 := Lib.hid (M2.out.next hb307)
        have hbe := below_join hbe hb307
        refine hK.out _ _ (blk_range B5) (fun hHeld => ?_)
        clear hK K hb307
        refine wpAnyH_take (i := 18) (v := ?vqah18) rfl (by kernel_rfl) (by kernel_rfl) (by kernel_rfl) (fun _ _ _ h => h) (Or.inl ⟨by rfl, ?yqah18⟩) (by assumption) ?rqah18
        case yqah18 => intro w hSw; (try dsimp only at hSw); go_simp <;> (try with_reducible rfl)
        (try simp only [List.getElem_toArray, List.getElem_cons_succ, List.getElem_cons_zero, Act.put, List.setIfInBounds_toArray, List.set_cons_zero, List.set_cons_succ])
        refine wpAnyH_take (i := 19) (v := ?vqah19) rfl (by kernel_rfl) (by kernel_rfl) (by kernel_rfl) (fun _ _ _ h => h) (Or.inl ⟨by rfl, ?yqah19⟩) (by assumption) ?rqah19
        case yqah19 => intro w hSw; (try dsimp only at hSw); go_simp <;> (try with_reducible rfl)
        (try simp only [List.getElem_toArray, List.getElem_cons_succ, List.getElem_cons_zero, Act.put, List.setIfInBounds_toArray, List.set_cons_zero, List.set_cons_succ])
        refine wpAnyH_take (i := 20) (v := ?vqah20) rfl (by kernel_rfl) (by kernel_rfl) (by kernel_rfl) (fun _ _ _ h => h) (Or.inl ⟨by rfl, ?yqah20⟩) (by assumption) ?rqah20
        case yqah20 => intro w hSw; (try dsimp only at hSw); go_simp <;> (try with_reducible rfl)
        (try simp only [List.getElem_toArray, List.getElem_cons_succ, List.getElem_cons_zero, Act.put, List.setIfInBounds_toArray, List.set_cons_zero, List.set_cons_succ])
        refine wpAnyH_done (by kernel_rfl) ?_ _
        clear hHeld zz5_1
        go_wp2
        go_ret
        exact ⟨rfl, hbe⟩
/-- Whatever comes in. -/
theorem readsLaw_any (A B : Option Addr) (c d : Nat) (l : List Fd) (ns : List ByteArray) (hh : List Int) (w : World) (hl10 : hh.length = 10) (hl : l.length ≤ 140737488355328) (hn : ns.length ≤ 140737488355328) (hz : ∀ f ∈ l, f.nm.size ≤ 9223372036854775807) (hS : FsAt w A l) (hT : StAt w B ns) (hQ : QF w) :
    Calls Tryd.prog 4 #[.slice A l.length c, .slice B ns.length d, .agg (hh.map iV).toArray] w fun e w' => e = .returned (.bool true) ∧ Below w.heap.size w w' := by
  by_cases hb : checkM l = 0 ∧ rightI hh ∧ ns.length ≤ 20
  · obtain ⟨h, rfl⟩ := right_head hl10 hb.2.1
    rw [← H_iV]
    exact readsGood_any A B c d l ns h w hz hS hT hQ hb.1 hb.2.2
  · exact readsBad_any A B c d l ns hh w hl10 hl hn hz hS hQ hb
end Go.Proofs.YtbgndopgllnmaaaDoor
