/-
  Contracts of the functions that the statements of layer 3 call, part 10 of 10 (merged texts: Sc23, Sc24, Sd1, Sv1, Sc25, Sx1, Hopen, Hopen2). Conditions: as the head of each part says.
-/
import Derived.Test.YtkakiepaffhhjaaDoorJI
import Derived.Test.YtkakiepaffhhjaaDoorJG
import Derived.Test.YtkakiepaffhhjaaDoorJD
import Derived.SizedLaws
import Derived.SliceStrings
import Derived.Deep.Slices

/-
  Contracts of the walks over sign.Verify and the reference's Verify, for every height and signature. Conditions: a message of at most 10^6 bytes; a signature of at most 10^6 bytes; the tables read as the document has them.
-/
namespace Go.Proofs.YtkakiepaffhhjaaDoor
open Go.RowKit

theorem vfy_h {pub ml l : List UInt8} {h : Int} (ho : okH h = false) : vfy pub h ml l = (0, 1) := by unfold vfy; rw [ho]; rfl
theorem vfy_err {pub ml l : List UInt8} {h : Int} {x : Int} (ho : okH h = true) (hg : WM.getI l = (0, 0, x)) (hx : x ≠ 0) : vfy pub h ml l = (0, x) := by unfold vfy; rw [if_pos ho, hg, if_neg hx]
theorem vfy_no {pub ml l : List UInt8} {h n : Int} {u : Nat} (ho : okH h = true) (hg : WM.getI l = (n, u, 0)) (hi : okI2 h n = false) : vfy pub h ml l = (0, 8) := by
  unfold vfy; rw [if_pos ho, hg, if_pos rfl]
  show (if okI2 h n = true then _ else _) = _
  rw [hi]; rfl
theorem vfy_short {pub ml l : List UInt8} {h n : Int} {u : Nat} (ho : okH h = true) (hg : WM.getI l = (n, u, 0)) (hi : okI2 h n = true) (hl : l.length < siz h n) : vfy pub h ml l = (0, 5) := by
  unfold vfy; rw [if_pos ho, hg, if_pos rfl]
  show (if okI2 h n = true then if l.length < siz h n then _ else _ else _) = _
  rw [if_pos hi, if_pos hl]
theorem vfy_long {pub ml l : List UInt8} {h n : Int} {u : Nat} (ho : okH h = true) (hg : WM.getI l = (n, u, 0)) (hi : okI2 h n = true) (hl : siz h n < l.length) : vfy pub h ml l = (0, 6) := by
  unfold vfy; rw [if_pos ho, hg, if_pos rfl]
  show (if okI2 h n = true then if l.length < siz h n then _ else if siz h n < l.length then _ else _ else _) = _
  rw [if_pos hi, if_neg (by omega), if_pos hl]
theorem vfy_eq {pub ml l : List UInt8} {h n : Int} {u : Nat} (ho : okH h = true) (hg : WM.getI l = (n, u, 0)) (hi : okI2 h n = true) (hl : siz h n = l.length) :
    vfy pub h ml l = (if SG.root pub n.toNat ml (l.drop u) h.toNat = pub then n else 0, if SG.root pub n.toNat ml (l.drop u) h.toNat = pub then 0 else 8) := by
  unfold vfy; rw [if_pos ho, hg, if_pos rfl]
  show (if okI2 h n = true then if l.length < siz h n then _ else if siz h n < l.length then _ else if SG.root pub n.toNat ml (l.drop u) h.toNat = pub then _ else _ else _) = _
  rw [if_pos hi, if_neg (by omega), if_neg (by omega)]
  by_cases hr : SG.root pub n.toNat ml (l.drop u) h.toNat = pub
  · rw [if_pos hr, if_pos hr, if_pos hr]
  · rw [if_neg hr, if_neg hr, if_neg hr]
theorem siz_of {m k u : Nat} {l : List UInt8} (hg : WM.getI l = ((k : Int), u, 0)) (hi : okI2 (m : Int) (k : Int) = true) : siz (m : Int) (k : Int) = u + (35 + m) * 16 ∧ u ≤ l.length := by
  obtain ⟨h1, _, _, h4, _⟩ := WM.getI_ok hg
  unfold siz
  rw [if_pos hi, ← h4, List.length_take, Int.toNat_natCast]
  exact ⟨by omega, h1⟩
theorem okI2_nat {h n : Int} (hi : okI2 h n = true) : ∃ m k : Nat, h = (m : Int) ∧ n = (k : Int) ∧ m ≤ 6 ∧ k < 64 := by
  obtain ⟨a, b, c, d⟩ := okI2_h hi
  exact ⟨h.toNat, n.toNat, by omega, by omega, by omega, by omega⟩
set_option maxRecDepth 100000 in
set_option maxHeartbeats 1600000 in
theorem sverify_any (pub ml : List UInt8) (h n e : Int) (t : ByteArray) (w : World) (hV : Unit → vfy pub h ml t.data.toList = (n, e)) (hp : pub.length = 16) (hm : ml.length ≤ 1000000) (hs : t.size ≤ 1000000) (HY : Lay w) :
    Calls Tryd.prog 22 #[.agg (pub.map B8).toArray, .int .i64 h, .string ⟨ml.toArray⟩, .string t] w fun x w' => x = .returned (.tuple #[.int .i64 n, .int .i64 e]) ∧ Below w.heap.size w w' := by
  have htl : t.data.toList.length = t.size := bytes_size t
  have HTL := Lib.hid htl
  have HP := Lib.hid hp
  by_cases ho : okH h = true
  · by_cases hbad : ∃ x, (x = 5 ∨ x = 6) ∧ WM.getI t.data.toList = (0, 0, x)
    · obtain ⟨x, hx, hg⟩ := hbad
      have hv := hV ()
      rw [vfy_err ho hg (by omega)] at hv
      injection hv with hv1 hv2
      subst hv1
      subst hv2
      have hxb : (x != 0) = true := by rcases hx with rfl | rfl <;> rfl
      have HG : Unit → WM.getI t.data.toList = (0, 0, x) := fun _ => hg
      clear hV hg hx htl hp
      go_enter Tryd.func22, Tryd.ntmps22
      go_wp2_with (with_reducible refine wpList_box (o := ⟨some 4, .box 23 (.tmp 0), _, _, _, _⟩) ?g1a 23 (.tmp 0) ?o1a (.agg (pub.map B8).toArray) (pub.map B8) ?x1a ?c1a ?_)
      try (case g1a => rfl)
      try (case o1a => rfl)
      try (case x1a => rfl)
      try (case c1a => rfl)
      intro gp w1 hgp hs1 hb1 hB1
      have hbel1 : Below w.heap.size w w1 := hb1.mono (Nat.le_of_eq hgp.out.symm)
      clear hgp hs1 hb1 hB1
      go_wp2_with fail
      (with_reducible refine (permitted_to _ true _ ho).mono ?_)
      rintro e w' ⟨rfl, rfl⟩
      go_wp2_with (with_reducible refine wpList_bytesOf (o := ⟨some 20, .convert 9 43 (.tmp 19), _, _, _, _⟩) ?g2 (.tmp 19) ?o2 t ?x2 ?_)
      try (case x2 => rfl)
      try (case g2 => rfl)
      try (case o2 => rfl)
      intro A cap w2 hb2 hh2
      have hbel2 := below_join hbel1 hb2
      clear hbel1 hb2
      go_wp2_with fail
      (with_reducible refine (getInt_at A cap _ t.data.toList 0 0 x _ HG HTL.out.symm (by have := HTL.out; omega) hh2).mono ?_)
      rintro e w' ⟨rfl, rfl⟩
      clear hh2 HG
      go_wp2
      go_ret2
      exact ⟨rfl, hbel2⟩
    · obtain ⟨i, u, hg⟩ : ∃ i u, WM.getI t.data.toList = (i, u, 0) := by
        rcases WM.getI_cases t.data.toList with h6 | h5 | hok
        · exact absurd ⟨6, Or.inr rfl, h6⟩ hbad
        · exact absurd ⟨5, Or.inl rfl, h5⟩ hbad
        · exact hok
      have HG : Unit → WM.getI t.data.toList = (i, u, 0) := fun _ => hg
      clear hbad
      by_cases hoi : okI2 h i = true
      · obtain ⟨m, k, rfl, rfl, hm6, hk64⟩ := okI2_nat hoi
        obtain ⟨hsz, hul⟩ := siz_of hg hoi
        obtain ⟨z, hz⟩ : ∃ z, siz (m : Int) (k : Int) = z := ⟨_, rfl⟩
        by_cases hlt : t.size < z
        · have hv := hV ()
          rw [vfy_short ho hg hoi (by rw [hz, htl]; exact hlt)] at hv
          cases hv
          have HZ := Lib.hid hz
          clear hV hg hz hsz htl hul hp
          go_enter Tryd.func22, Tryd.ntmps22
          go_wp2_with (with_reducible refine wpList_box (o := ⟨some 4, .box 23 (.tmp 0), _, _, _, _⟩) ?g1b 23 (.tmp 0) ?o1b (.agg (pub.map B8).toArray) (pub.map B8) ?x1b ?c1b ?_)
          try (case g1b => rfl)
          try (case o1b => rfl)
          try (case x1b => rfl)
          try (case c1b => rfl)
          intro gp w1 hgp hs1 hb1 hB1
          have hbel1 : Below w.heap.size w w1 := hb1.mono (Nat.le_of_eq hgp.out.symm)
          clear hgp hs1 hb1 hB1
          go_wp2_with fail
          (with_reducible refine (permitted_to _ true _ ho).mono ?_)
          rintro e w' ⟨rfl, rfl⟩
          go_wp2_with (with_reducible refine wpList_bytesOf (o := ⟨some 20, .convert 9 43 (.tmp 19), _, _, _, _⟩) ?g2 (.tmp 19) ?o2 t ?x2 ?_)
          try (case x2 => rfl)
          try (case g2 => rfl)
          try (case o2 => rfl)
          intro A cap w2 hb2 hh2
          have hbel2 := below_join hbel1 hb2
          clear hbel1 hb2
          go_wp2_with fail
          (with_reducible refine (getInt_at A cap _ t.data.toList (k : Int) u 0 _ HG HTL.out.symm (by have := HTL.out; omega) hh2).mono ?_)
          rintro e w' ⟨rfl, rfl⟩
          clear hh2 HG
          go_wp2_with fail
          (with_reducible refine (has_any _ _ true _ hoi).mono ?_)
          rintro e w' ⟨rfl, rfl⟩
          go_wp2_with fail
          (with_reducible refine (size_any _ _ z _ HZ.out).mono ?_)
          rintro e w3 ⟨rfl, hb3⟩
          have hbel3 := below_join hbel2 hb3
          clear hbel2 hb3
          go_wp2
          go_ret2
          exact ⟨rfl, hbel3⟩
        · by_cases hgt : z < t.size
          · have hv := hV ()
            rw [vfy_long ho hg hoi (by rw [hz, htl]; exact hgt)] at hv
            cases hv
            have HZ := Lib.hid hz
            clear hV hg hz hsz htl hul hp
            go_enter Tryd.func22, Tryd.ntmps22
            go_wp2_with (with_reducible refine wpList_box (o := ⟨some 4, .box 23 (.tmp 0), _, _, _, _⟩) ?g1c 23 (.tmp 0) ?o1c (.agg (pub.map B8).toArray) (pub.map B8) ?x1c ?c1c ?_)
            try (case g1c => rfl)
            try (case o1c => rfl)
            try (case x1c => rfl)
            try (case c1c => rfl)
            intro gp w1 hgp hs1 hb1 hB1
            have hbel1 : Below w.heap.size w w1 := hb1.mono (Nat.le_of_eq hgp.out.symm)
            clear hgp hs1 hb1 hB1
            go_wp2_with fail
            (with_reducible refine (permitted_to _ true _ ho).mono ?_)
            rintro e w' ⟨rfl, rfl⟩
            go_wp2_with (with_reducible refine wpList_bytesOf (o := ⟨some 20, .convert 9 43 (.tmp 19), _, _, _, _⟩) ?g2 (.tmp 19) ?o2 t ?x2 ?_)
            try (case x2 => rfl)
            try (case g2 => rfl)
            try (case o2 => rfl)
            intro A cap w2 hb2 hh2
            have hbel2 := below_join hbel1 hb2
            clear hbel1 hb2
            go_wp2_with fail
            (with_reducible refine (getInt_at A cap _ t.data.toList (k : Int) u 0 _ HG HTL.out.symm (by have := HTL.out; omega) hh2).mono ?_)
            rintro e w' ⟨rfl, rfl⟩
            clear hh2 HG
            go_wp2_with fail
            (with_reducible refine (has_any _ _ true _ hoi).mono ?_)
            rintro e w' ⟨rfl, rfl⟩
            go_wp2_with fail
            (with_reducible refine (size_any _ _ z _ HZ.out).mono ?_)
            rintro e w3 ⟨rfl, hb3⟩
            have hbel3 := below_join hbel2 hb3
            clear hbel2 hb3
            go_wp2_with fail
            (with_reducible refine (size_any _ _ z _ HZ.out).mono ?_)
            rintro e w4 ⟨rfl, hb4⟩
            have hbel4 := below_join hbel3 hb4
            clear hbel3 hb4
            go_wp2
            go_ret2
            exact ⟨rfl, hbel4⟩
          · have hzt : siz (m : Int) (k : Int) = t.size := by omega
            have hv := hV ()
            rw [vfy_eq ho hg hoi (by rw [htl]; exact hzt), Int.toNat_natCast, Int.toNat_natCast] at hv
            injection hv with hv1 hv2
            refine (sverify_deep pub ml m k u t (SG.root pub k ml (t.data.toList.drop u) m) w HG (fun _ => rfl) hm6 hoi hk64 hzt (by omega) (by rw [← htl]; exact hul) hp hm hs HY).mono fun x w' hx => ?_
            rw [hv1, hv2] at hx
            exact hx
      · have hof : okI2 h i = false := by simpa using hoi
        have hv := hV ()
        rw [vfy_no ho hg hof] at hv
        cases hv
        clear hV hg htl hp hoi
        go_enter Tryd.func22, Tryd.ntmps22
        go_wp2_with (with_reducible refine wpList_box (o := ⟨some 4, .box 23 (.tmp 0), _, _, _, _⟩) ?g1d 23 (.tmp 0) ?o1d (.agg (pub.map B8).toArray) (pub.map B8) ?x1d ?c1d ?_)
        try (case g1d => rfl)
        try (case o1d => rfl)
        try (case x1d => rfl)
        try (case c1d => rfl)
        intro gp w1 hgp hs1 hb1 hB1
        have hbel1 : Below w.heap.size w w1 := hb1.mono (Nat.le_of_eq hgp.out.symm)
        clear hgp hs1 hb1 hB1
        go_wp2_with fail
        (with_reducible refine (permitted_to _ true _ ho).mono ?_)
        rintro e w' ⟨rfl, rfl⟩
        go_wp2_with (with_reducible refine wpList_bytesOf (o := ⟨some 20, .convert 9 43 (.tmp 19), _, _, _, _⟩) ?g2 (.tmp 19) ?o2 t ?x2 ?_)
        try (case x2 => rfl)
        try (case g2 => rfl)
        try (case o2 => rfl)
        intro A cap w2 hb2 hh2
        have hbel2 := below_join hbel1 hb2
        clear hbel1 hb2
        go_wp2_with fail
        (with_reducible refine (getInt_at A cap _ t.data.toList i u 0 _ HG HTL.out.symm (by have := HTL.out; omega) hh2).mono ?_)
        rintro e w' ⟨rfl, rfl⟩
        clear hh2 HG
        go_wp2_with fail
        (with_reducible refine (has_any _ _ false _ hof).mono ?_)
        rintro e w' ⟨rfl, rfl⟩
        go_wp2
        go_ret2
        exact ⟨rfl, hbel2⟩
  · have hof : okH h = false := by simpa using ho
    have hv := hV ()
    rw [vfy_h hof] at hv
    cases hv
    clear hV htl hp ho
    go_enter Tryd.func22, Tryd.ntmps22
    go_wp2_with (with_reducible refine wpList_box (o := ⟨some 4, .box 23 (.tmp 0), _, _, _, _⟩) ?g1e 23 (.tmp 0) ?o1e (.agg (pub.map B8).toArray) (pub.map B8) ?x1e ?c1e ?_)
    try (case g1e => rfl)
    try (case o1e => rfl)
    try (case x1e => rfl)
    try (case c1e => rfl)
    intro gp w1 hgp hs1 hb1 hB1
    have hbel1 : Below w.heap.size w w1 := hb1.mono (Nat.le_of_eq hgp.out.symm)
    clear hgp hs1 hb1 hB1
    go_wp2_with fail
    (with_reducible refine (permitted_to _ false _ hof).mono ?_)
    rintro e w' ⟨rfl, rfl⟩
    go_wp2
    go_ret2
    exact ⟨rfl, hbel1⟩
end Go.Proofs.YtkakiepaffhhjaaDoor

/-
  Contract of the walk over the reference's Verify, for every height and signature. Conditions: a message of at most 10^6 bytes; a signature of at most 10^6 bytes; its table reads as the document has it.
-/
namespace Go.Proofs.YtkakiepaffhhjaaDoor
open Go.RowKit

theorem cnt_pos {h : Int} (ho : okH h = true) : 1 ≤ cnt h := by unfold cnt; rw [if_pos ho]; exact Nat.one_le_two_pow
set_option maxRecDepth 100000 in
set_option maxHeartbeats 1600000 in
theorem rverify_deep (pub ml : List UInt8) (m k u : Nat) (t : ByteArray) (D : List UInt8) (w : World) (hg : Unit → WM.getI t.data.toList = ((k : Int), u, 0)) (hD : Unit → SG.root pub k ml (t.data.toList.drop u) m = D) (hm6 : m ≤ 6) (hk : okI2 (m : Int) (k : Int) = true) (hk64 : k < 64) (hz : siz (m : Int) (k : Int) = t.size) (hu : t.size - u = 16 * (35 + m)) (hul : u ≤ t.size)
    (hp : pub.length = 16) (hm : ml.length ≤ 1000000) (hs : t.size ≤ 1000000) (HY : LayC w) :
    Calls Tryd.prog 23 #[.agg (pub.map B8).toArray, .int .i64 m, .string ⟨ml.toArray⟩, .string t] w fun e w' => e = .returned (.tuple #[.int .i64 (if D = pub then (k : Int) else 0), .int .i64 (if D = pub then (0 : Int) else 8)]) ∧ Below w.heap.size w w' := by
  have ho : okH (m : Int) = true := by unfold okH; exact decide_eq_true ⟨by omega, by omega⟩
  have HP := Lib.hid hp
  have HG := hg
  have htl : t.data.toList.length = t.size := bytes_size t
  have hdr : (t.extract u t.size).data.toList = t.data.toList.drop u := drop_extract _ _
  have hes : (t.extract u t.size).size = 16 * (35 + m) := by rw [← bytes_size, hdr, List.length_drop, htl]; exact hu
  have hDr : Unit → SG.root pub k ml (t.extract u t.size).data.toList m = D := fun _ => by rw [hdr]; exact hD ()
  have hDl : Hid (D.length = 16) := by rw [← hD ()]; exact SG.root_length _ _ _ _ _
  have HES := Lib.hid hes
  have HTL := Lib.hid htl
  have hui : (u : Int) ≤ (t.size : Int) := by omega
  have hneq := run_neqDig D pub hDl.out hp
  obtain ⟨q, hc⟩ : ∃ q, cnt (m : Int) = q := ⟨_, rfl⟩
  have hq1 : 1 ≤ q := by rw [← hc]; exact cnt_pos ho
  have hq0 : ((q : Int) == 0) = false := beq_eq_false_iff_ne.2 (by omega)
  have hkq : k < q := by have := (of_decide_eq_true hk).2; rw [hc] at this; omega
  have HZ := Lib.hid hz
  clear hD hg hp hz hdr hes htl hu
  go_enter Tryd.func23, Tryd.ntmps23
  go_wp2_with (with_reducible refine wpList_box (o := ⟨some 4, .box 23 (.tmp 0), _, _, _, _⟩) ?g1 23 (.tmp 0) ?o1 (.agg (pub.map B8).toArray) (pub.map B8) ?x1 ?c1 ?_)
  try (case g1 => rfl)
  try (case o1 => rfl)
  try (case x1 => rfl)
  try (case c1 => rfl)
  intro gp w1 hgp hs1 hb1 hB1
  have hbel1 : Below w.heap.size w w1 := hb1.mono (Nat.le_of_eq hgp.out.symm)
  clear hgp hs1 hb1
  go_wp2_with fail
  (with_reducible refine (rcount_to _ q _ hc).mono ?_)
  rintro e w' ⟨rfl, rfl⟩
  go_wp2_with (with_reducible refine wpList_bytesOf (o := ⟨some 18, .convert 9 43 (.tmp 17), _, _, _, _⟩) ?g2 (.tmp 17) ?o2 t ?x2 ?_)
  try (case x2 => rfl)
  try (case g2 => rfl)
  try (case o2 => rfl)
  intro A cap w2 hb2 hh2
  have hB2 := hB1.next hb2 hB1.lt
  have hbel2 := below_join hbel1 hb2
  clear hB1 hbel1 hb2
  go_wp2_with fail
  (with_reducible refine (rgetInt_at A cap _ t.data.toList (k : Int) u 0 _ HG HTL.out.symm (by have := HTL.out; omega) hh2).mono ?_)
  rintro e w' ⟨rfl, rfl⟩
  clear hh2 HG
  go_wp2_with fail
  (with_reducible refine (rcount_to _ q _ hc).mono ?_)
  rintro e w' ⟨rfl, rfl⟩
  go_wp2_with fail
  (with_reducible refine (rsize_any _ _ t.size _ HZ.out).mono ?_)
  rintro e w3 ⟨rfl, hb3⟩
  have hB3 := hB2.next hb3 hB2.lt
  have hbel3 := below_join hbel2 hb3
  clear hB2 hbel2 hb3
  go_wp2_with fail
  (with_reducible refine (rsize_any _ _ t.size _ HZ.out).mono ?_)
  rintro e w4 ⟨rfl, hb4⟩
  have hB4 := hB3.next hb4 hB3.lt
  have hbel4 := below_join hbel3 hb4
  clear hB3 hbel3 hb4
  have hun := Tryd.underlying23
  have hzp : (Tryd.prog.info? 23).map (·.size) = some (pub.map B8).length := by rw [List.length_map, HP.out]; exact Tryd.size44
  have hS : ∀ w', Below w4.heap.size w4 w' → (Below w.heap.size w w' ∧ w'.rangeAt gp 0 (pub.map B8)) := fun w' h => ⟨below_join hbel4 h, blk_range (hB4.next h hB4.lt)⟩
  have hd4 := below_drew w4
  have hgd44 := Tryd.guard44
  go_wp2
  refine wp_region_held_drew (S := fun w' => Below w.heap.size w w' ∧ w'.rangeAt gp 0 (pub.map B8)) (by kernel_rfl) (hS _ hd4) (fun hHeld => ?_)
  generalize w4.drew = wd at hd4 hHeld ⊢
  refine' wpAnyH_take (i := 0) (v := _) rfl (by kernel_rfl) (by kernel_rfl) (by kernel_rfl) (fun _ _ _ h => h) (yieldsIf_load_mid (by rfl) _ _ (by rfl) _ _ (by rfl) _ _ ?Sv0 ?uv0 ?dv0 ?iv0) (by assumption) ?rv0
  case Sv0 => exact (by intro w h; exact h.2)
  case uv0 => exact hun
  case dv0 => rfl
  case iv0 => exact hzp
  (try simp only [List.getElem_toArray, List.getElem_cons_zero, Act.put, List.setIfInBounds_toArray, List.set_cons_zero, List.set_cons_succ])
  refine wpAnyH_take (i := 1) (v := ?vv1) rfl (by kernel_rfl) (by kernel_rfl) (by kernel_rfl) (fun _ _ _ h => h) (Or.inl ⟨by rfl, ?yv1⟩) (by assumption) ?rv1
  case yv1 => intro w hSw; (try dsimp only at hSw); go_simp <;> (try with_reducible rfl)
  (try simp only [List.getElem_toArray, List.getElem_cons_succ, List.getElem_cons_zero, Act.put, List.setIfInBounds_toArray, List.set_cons_zero, List.set_cons_succ])
  refine wpAnyH_take (i := 2) (v := ?vv2) rfl (by kernel_rfl) (by kernel_rfl) (by kernel_rfl) (fun _ _ _ h => h) (Or.inl ⟨by rfl, ?yv2⟩) (by assumption) ?rv2
  case yv2 => intro w hSw; (try dsimp only at hSw); go_simp <;> (try with_reducible rfl)
  (try simp only [List.getElem_toArray, List.getElem_cons_succ, List.getElem_cons_zero, Act.put, List.setIfInBounds_toArray, List.set_cons_zero, List.set_cons_succ])
  refine wpAnyH_take (i := 3) (v := ?vv3) rfl (by kernel_rfl) (by kernel_rfl) (by kernel_rfl) (fun _ _ _ h => h) (Or.inl ⟨by rfl, ?yv3⟩) (by assumption) ?rv3
  case yv3 => intro w hSw; (try dsimp only at hSw); go_simp <;> (try with_reducible rfl)
  (try simp only [List.getElem_toArray, List.getElem_cons_succ, List.getElem_cons_zero, Act.put, List.setIfInBounds_toArray, List.set_cons_zero, List.set_cons_succ])
  refine wpAnyH_take (i := 4) (v := ?vv4) rfl (by kernel_rfl) (by kernel_rfl) (by kernel_rfl) (fun _ _ _ h => h) (Or.inl ⟨by rfl, ?yv4⟩) (by assumption) ?rv4
  case yv4 => intro w hSw; (try dsimp only at hSw); go_simp <;> (try with_reducible rfl)
  (try simp only [List.getElem_toArray, List.getElem_cons_succ, List.getElem_cons_zero, Act.put, List.setIfInBounds_toArray, List.set_cons_zero, List.set_cons_succ])
  refine wpAnyH_take (i := 5) (v := ?vv5) rfl (by kernel_rfl) (by kernel_rfl) (by kernel_rfl) (fun _ _ _ h => h) (Or.inl ⟨by rfl, ?yv5⟩) (by assumption) ?rv5
  case yv5 => intro w hSw; (try dsimp only at hSw); go_simp <;> (try with_reducible rfl)
  (try simp only [List.getElem_toArray, List.getElem_cons_succ, List.getElem_cons_zero, Act.put, List.setIfInBounds_toArray, List.set_cons_zero, List.set_cons_succ])
  refine wpAnyH_take (i := 6) (v := ?vv6) rfl (by kernel_rfl) (by kernel_rfl) (by kernel_rfl) (fun _ _ _ h => h) (Or.inl ⟨by rfl, ?yv6⟩) (by assumption) ?rv6
  case yv6 => intro w hSw; (try dsimp only at hSw); go_simp <;> (try with_reducible rfl)
  (try simp only [List.getElem_toArray, List.getElem_cons_succ, List.getElem_cons_zero, Act.put, List.setIfInBounds_toArray, List.set_cons_zero, List.set_cons_succ])
  refine' wpAnyH_take (i := 8) (v := _) rfl (by kernel_rfl) (by kernel_rfl) (by kernel_rfl) (fun _ _ _ h => h) (yieldsIf_load_mid (by rfl) _ _ (by rfl) _ _ (by rfl) _ _ ?Sv8 ?uv8 ?dv8 ?iv8) (by assumption) ?rv8
  case Sv8 => exact (by intro w h; exact h.2)
  case uv8 => exact hun
  case dv8 => rfl
  case iv8 => exact hzp
  (try simp only [List.getElem_toArray, List.getElem_cons_succ, List.getElem_cons_zero, Act.put, List.setIfInBounds_toArray, List.set_cons_zero, List.set_cons_succ])
  refine wpAnyH_ready (rs := [7]) (by kernel_rfl) (by simp) ?_
  refine AllReadyH.cons rfl (fun K hK => ?_) AllReadyH.nil
  go_simp
  go_wp2_with fail
  (with_reducible refine (rroot_any pub ml m k _ D _ hDr hm6 hk64 HP.out hm HES.out (HY.next (below_join hbel4 hd4))).mono ?_)
  rintro e w10 ⟨rfl, hb10⟩
  have hk10 := below_join hd4 hb10
  clear hb10 hHeld
  refine hK.out _ _ (hS _ hk10) (fun hHeld => ?_)
  clear hK K
  refine wpAnyH_ready (rs := [9]) (by kernel_rfl) (by simp) ?_
  refine AllReadyH.cons rfl (fun K hK => ?_) AllReadyH.nil
  go_simp
  refine hK.out _ _ (hS _ hk10) (fun hHeld => ?_)
  clear hK K
  refine wpAnyH_done (by kernel_rfl) ?_ _
  have hbelZ := below_join hbel4 hk10
  clear hS hd4 hB4 hneq hk10 hHeld
  by_cases hDp : D = pub
  · have HDP := Lib.hid hDp
    have hdec : (!decide (D = pub)) = false := by rw [decide_eq_true hDp]; rfl
    rw [hdec]
    clear hDp hdec
    go_wp2
    go_ret2
    exact ⟨by first | rfl | (rw [if_pos HDP.out, if_pos HDP.out]; rfl), hbelZ⟩
  · have HDP := Lib.hid hDp
    have hdec : (!decide (D = pub)) = true := by rw [decide_eq_false hDp]; rfl
    rw [hdec]
    clear hDp hdec
    go_wp2
    go_ret2
    exact ⟨by first | rfl | (rw [if_neg HDP.out, if_neg HDP.out]; rfl), hbelZ⟩
set_option maxRecDepth 100000 in
set_option maxHeartbeats 1600000 in
theorem rverify_any (pub ml : List UInt8) (h n e : Int) (t : ByteArray) (w : World) (hV : Unit → vfy pub h ml t.data.toList = (n, e)) (hp : pub.length = 16) (hm : ml.length ≤ 1000000) (hs : t.size ≤ 1000000) (HY : LayC w) :
    Calls Tryd.prog 23 #[.agg (pub.map B8).toArray, .int .i64 h, .string ⟨ml.toArray⟩, .string t] w fun x w' => x = .returned (.tuple #[.int .i64 n, .int .i64 e]) ∧ Below w.heap.size w w' := by
  have htl : t.data.toList.length = t.size := bytes_size t
  have HTL := Lib.hid htl
  have HP := Lib.hid hp
  by_cases ho : okH h = true
  · obtain ⟨q, hc⟩ : ∃ q, cnt h = q := ⟨_, rfl⟩
    have hq1 : 1 ≤ q := by rw [← hc]; exact cnt_pos ho
    have hq0 : ((q : Int) == 0) = false := beq_eq_false_iff_ne.2 (by omega)
    by_cases hbad : ∃ x, (x = 5 ∨ x = 6) ∧ WM.getI t.data.toList = (0, 0, x)
    · obtain ⟨x, hx, hg⟩ := hbad
      have hv := hV ()
      rw [vfy_err ho hg (by omega)] at hv
      injection hv with hv1 hv2
      subst hv1
      subst hv2
      have hxb : (x != 0) = true := by rcases hx with rfl | rfl <;> rfl
      have HG : Unit → WM.getI t.data.toList = (0, 0, x) := fun _ => hg
      clear hV hg hx htl hp
      go_enter Tryd.func23, Tryd.ntmps23
      go_wp2_with (with_reducible refine wpList_box (o := ⟨some 4, .box 23 (.tmp 0), _, _, _, _⟩) ?g1 23 (.tmp 0) ?o1 (.agg (pub.map B8).toArray) (pub.map B8) ?x1 ?c1 ?_)
      try (case g1 => rfl)
      try (case o1 => rfl)
      try (case x1 => rfl)
      try (case c1 => rfl)
      intro gp w1 hgp hs1 hb1 hB1
      have hbel1 : Below w.heap.size w w1 := hb1.mono (Nat.le_of_eq hgp.out.symm)
      clear hgp hs1 hb1
      go_wp2_with fail
      (with_reducible refine (rcount_to _ q _ hc).mono ?_)
      rintro e w' ⟨rfl, rfl⟩
      go_wp2_with (with_reducible refine wpList_bytesOf (o := ⟨some 18, .convert 9 43 (.tmp 17), _, _, _, _⟩) ?g2 (.tmp 17) ?o2 t ?x2 ?_)
      try (case x2 => rfl)
      try (case g2 => rfl)
      try (case o2 => rfl)
      intro A cap w2 hb2 hh2
      have hB2 := hB1.next hb2 hB1.lt
      have hbel2 := below_join hbel1 hb2
      clear hB1 hbel1 hb2
      go_wp2_with fail
      (with_reducible refine (rgetInt_at A cap _ t.data.toList 0 0 x _ HG HTL.out.symm (by have := HTL.out; omega) hh2).mono ?_)
      rintro e w' ⟨rfl, rfl⟩
      clear hh2 HG
      go_wp2
      go_ret2
      exact ⟨rfl, hbel2⟩
    · obtain ⟨i, u, hg⟩ : ∃ i u, WM.getI t.data.toList = (i, u, 0) := by
        rcases WM.getI_cases t.data.toList with h6 | h5 | hok
        · exact absurd ⟨6, Or.inr rfl, h6⟩ hbad
        · exact absurd ⟨5, Or.inl rfl, h5⟩ hbad
        · exact hok
      have HG : Unit → WM.getI t.data.toList = (i, u, 0) := fun _ => hg
      clear hbad
      by_cases hoi : okI2 h i = true
      · obtain ⟨m, k, rfl, rfl, hm6, hk64⟩ := okI2_nat hoi
        obtain ⟨hsz, hul⟩ := siz_of hg hoi
        have hkq : k < q := by have := (of_decide_eq_true hoi).2; rw [hc] at this; omega
        obtain ⟨z, hz⟩ : ∃ z, siz (m : Int) (k : Int) = z := ⟨_, rfl⟩
        by_cases hlt : t.size < z
        · have hv := hV ()
          rw [vfy_short ho hg hoi (by rw [hz, htl]; exact hlt)] at hv
          cases hv
          have HZ := Lib.hid hz
          clear hV hg hz hsz htl hul hp
          go_enter Tryd.func23, Tryd.ntmps23
          go_wp2_with (with_reducible refine wpList_box (o := ⟨some 4, .box 23 (.tmp 0), _, _, _, _⟩) ?g1 23 (.tmp 0) ?o1 (.agg (pub.map B8).toArray) (pub.map B8) ?x1 ?c1 ?_)
          try (case g1 => rfl)
          try (case o1 => rfl)
          try (case x1 => rfl)
          try (case c1 => rfl)
          intro gp w1 hgp hs1 hb1 hB1
          have hbel1 : Below w.heap.size w w1 := hb1.mono (Nat.le_of_eq hgp.out.symm)
          clear hgp hs1 hb1
          go_wp2_with fail
          (with_reducible refine (rcount_to _ q _ hc).mono ?_)
          rintro e w' ⟨rfl, rfl⟩
          go_wp2_with (with_reducible refine wpList_bytesOf (o := ⟨some 18, .convert 9 43 (.tmp 17), _, _, _, _⟩) ?g2 (.tmp 17) ?o2 t ?x2 ?_)
          try (case x2 => rfl)
          try (case g2 => rfl)
          try (case o2 => rfl)
          intro A cap w2 hb2 hh2
          have hB2 := hB1.next hb2 hB1.lt
          have hbel2 := below_join hbel1 hb2
          clear hB1 hbel1 hb2
          go_wp2_with fail
          (with_reducible refine (rgetInt_at A cap _ t.data.toList (k : Int) u 0 _ HG HTL.out.symm (by have := HTL.out; omega) hh2).mono ?_)
          rintro e w' ⟨rfl, rfl⟩
          clear hh2 HG
          go_wp2_with fail
          (with_reducible refine (rcount_to _ q _ hc).mono ?_)
          rintro e w' ⟨rfl, rfl⟩
          go_wp2_with fail
          (with_reducible refine (rsize_any _ _ z _ HZ.out).mono ?_)
          rintro e w3 ⟨rfl, hb3⟩
          have hB3 := hB2.next hb3 hB2.lt
          have hbel3 := below_join hbel2 hb3
          clear hB2 hbel2 hb3
          go_wp2
          go_ret2
          exact ⟨rfl, hbel3⟩
        · by_cases hgt : z < t.size
          · have hv := hV ()
            rw [vfy_long ho hg hoi (by rw [hz, htl]; exact hgt)] at hv
            cases hv
            have HZ := Lib.hid hz
            clear hV hg hz hsz htl hul hp
            go_enter Tryd.func23, Tryd.ntmps23
            go_wp2_with (with_reducible refine wpList_box (o := ⟨some 4, .box 23 (.tmp 0), _, _, _, _⟩) ?g1 23 (.tmp 0) ?o1 (.agg (pub.map B8).toArray) (pub.map B8) ?x1 ?c1 ?_)
            try (case g1 => rfl)
            try (case o1 => rfl)
            try (case x1 => rfl)
            try (case c1 => rfl)
            intro gp w1 hgp hs1 hb1 hB1
            have hbel1 : Below w.heap.size w w1 := hb1.mono (Nat.le_of_eq hgp.out.symm)
            clear hgp hs1 hb1
            go_wp2_with fail
            (with_reducible refine (rcount_to _ q _ hc).mono ?_)
            rintro e w' ⟨rfl, rfl⟩
            go_wp2_with (with_reducible refine wpList_bytesOf (o := ⟨some 18, .convert 9 43 (.tmp 17), _, _, _, _⟩) ?g2 (.tmp 17) ?o2 t ?x2 ?_)
            try (case x2 => rfl)
            try (case g2 => rfl)
            try (case o2 => rfl)
            intro A cap w2 hb2 hh2
            have hB2 := hB1.next hb2 hB1.lt
            have hbel2 := below_join hbel1 hb2
            clear hB1 hbel1 hb2
            go_wp2_with fail
            (with_reducible refine (rgetInt_at A cap _ t.data.toList (k : Int) u 0 _ HG HTL.out.symm (by have := HTL.out; omega) hh2).mono ?_)
            rintro e w' ⟨rfl, rfl⟩
            clear hh2 HG
            go_wp2_with fail
            (with_reducible refine (rcount_to _ q _ hc).mono ?_)
            rintro e w' ⟨rfl, rfl⟩
            go_wp2_with fail
            (with_reducible refine (rsize_any _ _ z _ HZ.out).mono ?_)
            rintro e w3 ⟨rfl, hb3⟩
            have hB3 := hB2.next hb3 hB2.lt
            have hbel3 := below_join hbel2 hb3
            clear hB2 hbel2 hb3
            go_wp2_with fail
            (with_reducible refine (rsize_any _ _ z _ HZ.out).mono ?_)
            rintro e w4 ⟨rfl, hb4⟩
            have hB4 := hB3.next hb4 hB3.lt
            have hbel4 := below_join hbel3 hb4
            clear hB3 hbel3 hb4
            go_wp2
            go_ret2
            exact ⟨rfl, hbel4⟩
          · have hzt : siz (m : Int) (k : Int) = t.size := by omega
            have hv := hV ()
            rw [vfy_eq ho hg hoi (by rw [htl]; exact hzt), Int.toNat_natCast, Int.toNat_natCast] at hv
            injection hv with hv1 hv2
            refine (rverify_deep pub ml m k u t (SG.root pub k ml (t.data.toList.drop u) m) w HG (fun _ => rfl) hm6 hoi hk64 hzt (by omega) (by rw [← htl]; exact hul) hp hm hs HY).mono fun x w' hx => ?_
            rw [hv1, hv2] at hx
            exact hx
      · have hof : okI2 h i = false := by simpa using hoi
        have hv := hV ()
        rw [vfy_no ho hg hof] at hv
        cases hv
        have hd : ¬ (0 ≤ i ∧ i < (q : Int)) := by rw [← hc]; exact of_decide_eq_false hof
        clear hV hg htl hp hoi
        by_cases h0 : i < 0
        · clear hd
          go_enter Tryd.func23, Tryd.ntmps23
          go_wp2_with (with_reducible refine wpList_box (o := ⟨some 4, .box 23 (.tmp 0), _, _, _, _⟩) ?g1 23 (.tmp 0) ?o1 (.agg (pub.map B8).toArray) (pub.map B8) ?x1 ?c1 ?_)
          try (case g1 => rfl)
          try (case o1 => rfl)
          try (case x1 => rfl)
          try (case c1 => rfl)
          intro gp w1 hgp hs1 hb1 hB1
          have hbel1 : Below w.heap.size w w1 := hb1.mono (Nat.le_of_eq hgp.out.symm)
          clear hgp hs1 hb1
          go_wp2_with fail
          (with_reducible refine (rcount_to _ q _ hc).mono ?_)
          rintro e w' ⟨rfl, rfl⟩
          go_wp2_with (with_reducible refine wpList_bytesOf (o := ⟨some 18, .convert 9 43 (.tmp 17), _, _, _, _⟩) ?g2 (.tmp 17) ?o2 t ?x2 ?_)
          try (case x2 => rfl)
          try (case g2 => rfl)
          try (case o2 => rfl)
          intro A cap w2 hb2 hh2
          have hB2 := hB1.next hb2 hB1.lt
          have hbel2 := below_join hbel1 hb2
          clear hB1 hbel1 hb2
          go_wp2_with fail
          (with_reducible refine (rgetInt_at A cap _ t.data.toList i u 0 _ HG HTL.out.symm (by have := HTL.out; omega) hh2).mono ?_)
          rintro e w' ⟨rfl, rfl⟩
          clear hh2 HG
          go_wp2
          go_ret2
          exact ⟨rfl, hbel2⟩
        · have hqi : (q : Int) ≤ i := by omega
          have h0' : 0 ≤ i := by omega
          clear hd h0
          go_enter Tryd.func23, Tryd.ntmps23
          go_wp2_with (with_reducible refine wpList_box (o := ⟨some 4, .box 23 (.tmp 0), _, _, _, _⟩) ?g1 23 (.tmp 0) ?o1 (.agg (pub.map B8).toArray) (pub.map B8) ?x1 ?c1 ?_)
          try (case g1 => rfl)
          try (case o1 => rfl)
          try (case x1 => rfl)
          try (case c1 => rfl)
          intro gp w1 hgp hs1 hb1 hB1
          have hbel1 : Below w.heap.size w w1 := hb1.mono (Nat.le_of_eq hgp.out.symm)
          clear hgp hs1 hb1
          go_wp2_with fail
          (with_reducible refine (rcount_to _ q _ hc).mono ?_)
          rintro e w' ⟨rfl, rfl⟩
          go_wp2_with (with_reducible refine wpList_bytesOf (o := ⟨some 18, .convert 9 43 (.tmp 17), _, _, _, _⟩) ?g2 (.tmp 17) ?o2 t ?x2 ?_)
          try (case x2 => rfl)
          try (case g2 => rfl)
          try (case o2 => rfl)
          intro A cap w2 hb2 hh2
          have hB2 := hB1.next hb2 hB1.lt
          have hbel2 := below_join hbel1 hb2
          clear hB1 hbel1 hb2
          go_wp2_with fail
          (with_reducible refine (rgetInt_at A cap _ t.data.toList i u 0 _ HG HTL.out.symm (by have := HTL.out; omega) hh2).mono ?_)
          rintro e w' ⟨rfl, rfl⟩
          clear hh2 HG
          go_wp2_with fail
          (with_reducible refine (rcount_to _ q _ hc).mono ?_)
          rintro e w' ⟨rfl, rfl⟩
          go_wp2
          go_ret2
          exact ⟨rfl, hbel2⟩
  · have hof : okH h = false := by simpa using ho
    have hv := hV ()
    rw [vfy_h hof] at hv
    cases hv
    have hc : cnt h = 0 := by unfold cnt; rw [hof]; rfl
    clear hV htl hp ho
    go_enter Tryd.func23, Tryd.ntmps23
    go_wp2_with (with_reducible refine wpList_box (o := ⟨some 4, .box 23 (.tmp 0), _, _, _, _⟩) ?g1 23 (.tmp 0) ?o1 (.agg (pub.map B8).toArray) (pub.map B8) ?x1 ?c1 ?_)
    try (case g1 => rfl)
    try (case o1 => rfl)
    try (case x1 => rfl)
    try (case c1 => rfl)
    intro gp w1 hgp hs1 hb1 hB1
    have hbel1 : Below w.heap.size w w1 := hb1.mono (Nat.le_of_eq hgp.out.symm)
    clear hgp hs1 hb1
    go_wp2_with fail
    (with_reducible refine (rcount_to _ 0 _ hc).mono ?_)
    rintro e w' ⟨rfl, rfl⟩
    go_wp2
    go_ret2
    exact ⟨rfl, hbel1⟩
end Go.Proofs.YtkakiepaffhhjaaDoor

/-
  The digits of different digests cross: one is less, another one is greater. Conditions: digests of sixteen bytes.
-/
namespace Go.Proofs.YtkakiepaffhhjaaDoor

theorem SG.nib_ge : ∀ (a b : List UInt8), a.length = b.length → (∀ j, (SG.nib b).getD j 0 ≤ (SG.nib a).getD j 0) → SG.dsum a ≤ SG.dsum b ∧ (a ≠ b → SG.dsum a < SG.dsum b)
  | [], [], _, _ => ⟨Nat.le_refl _, fun h => absurd rfl h⟩
  | x :: r, y :: s, hl, h => by
    have e : ∀ (z : UInt8) (t : List UInt8), SG.nib (z :: t) = z.toNat / 16 :: z.toNat % 16 :: SG.nib t := fun z t => by unfold SG.nib; rw [List.flatMap_cons]; rfl
    have h0 := h 0
    have h1 := h 1
    rw [e, e] at h0 h1
    simp only [List.getD_cons_zero, List.getD_cons_succ] at h0 h1
    have ih := SG.nib_ge r s (by simpa using hl) (fun j => by
      have := h (j + 2)
      rw [e, e] at this
      simpa only [List.getD_cons_succ] using this)
    have hx : x.toNat < 256 := x.toNat_lt
    have hy : y.toNat < 256 := y.toNat_lt
    show (30 - x.toNat / 16 - x.toNat % 16) + SG.dsum r ≤ (30 - y.toNat / 16 - y.toNat % 16) + SG.dsum s ∧ (_ → (30 - x.toNat / 16 - x.toNat % 16) + SG.dsum r < (30 - y.toNat / 16 - y.toNat % 16) + SG.dsum s)
    refine ⟨by have := ih.1; omega, fun hne => ?_⟩
    by_cases hxy : x = y
    · subst hxy
      have : r ≠ s := fun hrs => hne (by rw [hrs])
      have := ih.2 this
      omega
    · have : x.toNat ≠ y.toNat := fun h => hxy (UInt8.toNat_inj.1 h)
      have := ih.1
      omega
theorem SG.digits_lo (d : List UInt8) (j : Nat) (h : j < (SG.nib d).length) : (SG.digits d).getD j 0 = (SG.nib d).getD j 0 := by
  unfold SG.digits
  rw [List.getD_eq_getElem?_getD, List.getD_eq_getElem?_getD, List.getElem?_append_left h]
theorem SG.digits_hi (d : List UInt8) (j : Nat) : (SG.digits d).getD ((SG.nib d).length + j) 0 = ([SG.dsum d / 256, SG.dsum d / 16 % 16, SG.dsum d % 16] : List Nat).getD j 0 := by
  unfold SG.digits
  rw [List.getD_eq_getElem?_getD, List.getD_eq_getElem?_getD, List.getElem?_append_right (Nat.le_add_right _ _), Nat.add_sub_cancel_left]
theorem SG.digits_ge (a b : List UInt8) (ha : a.length = 16) (hb : b.length = 16) (h : ∀ j, j < 35 → (SG.digits b).getD j 0 ≤ (SG.digits a).getD j 0) : a = b := by
  have la := SG.nib_length a
  have lb := SG.nib_length b
  have hn := SG.nib_ge a b (by rw [ha, hb]) (fun j => by
    rcases Nat.lt_or_ge j 32 with hj | hj
    · have := h j (by omega)
      rwa [SG.digits_lo _ _ (by omega), SG.digits_lo _ _ (by omega)] at this
    · rw [List.getD_eq_getElem?_getD, List.getElem?_eq_none (by omega)]; exact Nat.zero_le _)
  have g : ∀ j, j < 3 → ([SG.dsum b / 256, SG.dsum b / 16 % 16, SG.dsum b % 16] : List Nat).getD j 0 ≤ ([SG.dsum a / 256, SG.dsum a / 16 % 16, SG.dsum a % 16] : List Nat).getD j 0 := fun j hj => by
    have h1 := SG.digits_hi a j
    have h2 := SG.digits_hi b j
    rw [show (SG.nib a).length + j = 32 + j by omega] at h1
    rw [show (SG.nib b).length + j = 32 + j by omega] at h2
    rw [← h1, ← h2]
    exact h (32 + j) (by omega)
  have g0 := g 0 (by omega)
  have g1 := g 1 (by omega)
  have g2 := g 2 (by omega)
  simp only [List.getD_cons_zero, List.getD_cons_succ] at g0 g1 g2
  by_cases hab : a = b
  · exact hab
  · have := hn.2 hab
    omega
def anyTo (f : Nat → Bool) : Nat → Bool
  | 0 => false
  | k + 1 => anyTo f k || f k
theorem anyTo_iff (f : Nat → Bool) : ∀ n, anyTo f n = true ↔ ∃ j, j < n ∧ f j = true
  | 0 => ⟨(fun h => by cases h), (fun ⟨_, h, _⟩ => absurd h (Nat.not_lt_zero _))⟩
  | n + 1 => by
    show (anyTo f n || f n) = true ↔ _
    rw [Bool.or_eq_true, anyTo_iff f n]
    constructor
    · rintro (⟨j, hj, h⟩ | h)
      · exact ⟨j, by omega, h⟩
      · exact ⟨n, by omega, h⟩
    · rintro ⟨j, hj, h⟩
      rcases Nat.lt_or_ge j n with hlt | hge
      · exact .inl ⟨j, hlt, h⟩
      · obtain rfl : j = n := by omega
        exact .inr h
def ltAt (l m : List Nat) (j : Nat) : Bool := decide (l.getD j 0 < m.getD j 0)
theorem SG.cross (a b : List UInt8) (ha : a.length = 16) (hb : b.length = 16) : anyTo (ltAt (SG.digits a) (SG.digits b)) 35 = !decide (a = b) := by
  by_cases hab : a = b
  · subst hab
    rw [decide_eq_true rfl]
    show _ = false
    rw [← Bool.not_eq_true, anyTo_iff]
    rintro ⟨j, _, h⟩
    unfold ltAt at h
    exact absurd (of_decide_eq_true h) (Nat.lt_irrefl _)
  · rw [decide_eq_false hab]
    show _ = true
    rw [anyTo_iff]
    apply Decidable.byContradiction
    intro hn
    exact hab (SG.digits_ge a b ha hb (fun j hj => by
      rcases Nat.lt_or_ge ((SG.digits a).getD j 0) ((SG.digits b).getD j 0) with h | h
      · exact absurd ⟨j, hj, decide_eq_true h⟩ hn
      · exact h))
end Go.Proofs.YtkakiepaffhhjaaDoor

/-
  What Verify answers to a signature, to a beginning of it, and to more than it. Conditions: the index is one of the tree's.
-/
namespace Go.Proofs.YtkakiepaffhhjaaDoor

theorem encI_one {k : Nat} (hk : k < 64) : (WM.encI (k : Int)).length = 1 := by
  have hf : WM.fold (k : Int) < 128 := by unfold WM.fold; rw [if_neg (by omega)]; omega
  unfold WM.encI
  rw [WM.encN_lo hf]; rfl
theorem k64_of {m k : Nat} (hk : k < 2 ^ m) (h6 : m ≤ 6) : k < 64 := Nat.lt_of_lt_of_le hk (by exact Nat.pow_le_pow_right (by omega) h6)
theorem okI2_of {m k : Nat} (hk : k < 2 ^ m) (h6 : m ≤ 6) : okI2 (m : Int) (k : Int) = true := by
  have ho : okH (m : Int) = true := by unfold okH; exact decide_eq_true ⟨by omega, by omega⟩
  unfold okI2 cnt
  rw [if_pos ho, Int.toNat_natCast]
  exact decide_eq_true ⟨by omega, by omega⟩
theorem okH_of {m : Nat} (h6 : m ≤ 6) : okH (m : Int) = true := by unfold okH; exact decide_eq_true ⟨by omega, by omega⟩
theorem siz_at {m k : Nat} (hk : k < 2 ^ m) (h6 : m ≤ 6) : siz (m : Int) (k : Int) = 1 + (35 + m) * 16 := by
  unfold siz
  rw [if_pos (okI2_of hk h6), encI_one (k64_of hk h6), Int.toNat_natCast]
theorem getI_at {k : Nat} (hk : k < 64) (t : List UInt8) : WM.getI (WM.encI (k : Int) ++ t) = ((k : Int), 1, 0) := by
  rw [WM.getI_encI (by omega) (by omega), encI_one hk]
theorem drop_encI {k : Nat} (hk : k < 64) (t : List UInt8) : (WM.encI (k : Int) ++ t).drop 1 = t := by
  have := encI_one hk
  rw [List.drop_append, List.drop_eq_nil_of_le (by omega), this]; rfl
theorem SG.sig_split (seed : List UInt8) (m k : Nat) (msg : List UInt8) : ∃ ds, ds = SG.digits (SG.message (SG.value seed m 0) (k : Int) msg) ∧ SG.sig seed m k msg = WM.encI (k : Int) ++ (SG.chains seed k ds 35 ++ SG.beside seed k m) := ⟨_, rfl, by unfold SG.sig; rw [List.append_assoc]⟩
theorem SG.sig_length (seed : List UInt8) (m k : Nat) (msg : List UInt8) (hk : k < 64) : (SG.sig seed m k msg).length = 1 + (35 + m) * 16 := by
  obtain ⟨ds, _, e⟩ := SG.sig_split seed m k msg
  rw [e, List.length_append, List.length_append, encI_one hk, SG.chains_length, SG.beside_length]; omega
theorem vfy_sig (seed msg : List UInt8) (m k : Nat) (hk : k < 2 ^ m) (h6 : m ≤ 6) : vfy (SG.value seed m 0) (m : Int) msg (SG.sig seed m k msg) = ((k : Int), 0) := by
  obtain ⟨ds, hds, e⟩ := SG.sig_split seed m k msg
  have h64 := k64_of hk h6
  have hl := SG.sig_length seed m k msg h64
  rw [e] at hl ⊢
  have hg := getI_at h64 (SG.chains seed k ds 35 ++ SG.beside seed k m)
  have := vfy_eq (pub := SG.value seed m 0) (ml := msg) (okH_of h6) hg (okI2_of hk h6) (by rw [hl]; exact siz_at hk h6)
  rw [this, drop_encI h64, Int.toNat_natCast, Int.toNat_natCast, SG.root_tail seed k m hk h6 _ msg ds hds.symm, if_pos rfl, if_pos rfl]
theorem vfy_more (seed msg more : List UInt8) (m k : Nat) (hk : k < 2 ^ m) (h6 : m ≤ 6) (hm : more ≠ []) : vfy (SG.value seed m 0) (m : Int) msg (SG.sig seed m k msg ++ more) = (0, 6) := by
  obtain ⟨ds, _, e⟩ := SG.sig_split seed m k msg
  have h64 := k64_of hk h6
  have hl := SG.sig_length seed m k msg h64
  have hm1 : 0 < more.length := List.length_pos_iff.2 hm
  have hg := getI_at h64 ((SG.chains seed k ds 35 ++ SG.beside seed k m) ++ more)
  rw [← List.append_assoc, ← e] at hg
  exact vfy_long (okH_of h6) hg (okI2_of hk h6) (by rw [List.length_append, hl, siz_at hk h6]; omega)
theorem vfy_cut (seed msg : List UInt8) (m k j : Nat) (hk : k < 2 ^ m) (h6 : m ≤ 6) (hj : j < 1 + (35 + m) * 16) : vfy (SG.value seed m 0) (m : Int) msg ((SG.sig seed m k msg).take j) = (0, 5) := by
  obtain ⟨ds, _, e⟩ := SG.sig_split seed m k msg
  have h64 := k64_of hk h6
  have hl := SG.sig_length seed m k msg h64
  have h1 := encI_one h64
  by_cases h0 : j = 0
  · subst h0
    rw [List.take_zero]
    exact vfy_err (okH_of h6) (by rfl) (by decide)
  · have ht : (SG.sig seed m k msg).take j = WM.encI (k : Int) ++ (SG.chains seed k ds 35 ++ SG.beside seed k m).take (j - 1) := by
      rw [e, List.take_append, List.take_of_length_le (by omega), h1]
    have hg := getI_at h64 ((SG.chains seed k ds 35 ++ SG.beside seed k m).take (j - 1))
    rw [← ht] at hg
    exact vfy_short (okH_of h6) hg (okI2_of hk h6) (by rw [List.length_take, hl, siz_at hk h6]; omega)
end Go.Proofs.YtkakiepaffhhjaaDoor

/-
  Contract of the walk over the statements' own sanity of layer 3: it returns true. Conditions: the tables read as the document has them.
-/
namespace Go.Proofs.YtkakiepaffhhjaaDoor
open Go.RowKit

def D2L : List UInt8 := [255, 16, 0, 0, 0, 0, 0, 0, 0, 0, 0, 0, 0, 0, 0, 0]
def dgA : List Nat := [0, 0, 0, 0, 0, 0, 0, 0, 0, 0, 0, 0, 0, 0, 0, 0, 0, 0, 0, 0, 0, 0, 0, 0, 0, 0, 0, 0, 0, 0, 0, 0, 1, 14, 0]
def dgB : List Nat := [15, 15, 1, 0, 0, 0, 0, 0, 0, 0, 0, 0, 0, 0, 0, 0, 0, 0, 0, 0, 0, 0, 0, 0, 0, 0, 0, 0, 0, 0, 0, 0, 1, 12, 1]
theorem digits_A : SG.digits (SM.zeros 16) = dgA := by decide +kernel
theorem digits_B : SG.digits D2L = dgB := by decide +kernel
theorem Tryd.build23 (w : World) : (Instr.build 23 #[(0, .int .u8 255), (1, .int .u8 16)]).run Tryd.prog w = .ok (.agg (D2L.map B8).toArray) w := by kernel_rfl
theorem sdig_A (w : World) : Calls Tryd.prog 10 #[.agg ((SM.zeros 16).map B8).toArray] w fun e w' => e = .returned (.agg (dgA.map N8).toArray) ∧ Below w.heap.size w w' := by
  rw [← digits_A]; exact sdigits_any _ w rfl
theorem sdig_B (w : World) : Calls Tryd.prog 10 #[.agg (D2L.map B8).toArray] w fun e w' => e = .returned (.agg (dgB.map N8).toArray) ∧ Below w.heap.size w w' := by
  rw [← digits_B]; exact sdigits_any _ w rfl
theorem spub_7 (w : World) (Z : List UInt8) (hZ : Unit → SM.zeros 16 = Z) (HY : Lay w) : Calls Tryd.prog 16 #[.string { data := #[115] }, .int .i64 7] w fun e w' => e = .returned (.tuple #[.agg (Z.map B8).toArray, .int .i64 1]) ∧ Below w.heap.size w w' :=
  public_any { data := #[115] } 7 Z w (fun u => hZ u) (by decide) HY
theorem spub_0 (w : World) (P : List UInt8) (hP : Unit → SG.value [115] 0 0 = P) (HY : Lay w) : Calls Tryd.prog 16 #[.string { data := #[115] }, .int .i64 0] w fun e w' => e = .returned (.tuple #[.agg (P.map B8).toArray, .int .i64 0]) ∧ Below w.heap.size w w' :=
  public_any { data := #[115] } 0 P w (fun u => hP u) (by decide) HY
theorem ssign_2 (w : World) (HY : Lay w) : Calls Tryd.prog 18 #[.string { data := #[115] }, .int .i64 1, .int .i64 2, .string { data := #[109] }] w fun e w' => e = .returned (.tuple #[.string ⟨([] : List UInt8).toArray⟩, .int .i64 14]) ∧ Below w.heap.size w w' :=
  ssign_any { data := #[115] } 1 2 [109] [] w (fun _ => rfl) (by decide) (by decide) HY
theorem ssign_0 (w : World) (R : List UInt8) (hR : Unit → SG.sig [115] 0 0 [109] = R) (HY : Lay w) : Calls Tryd.prog 18 #[.string { data := #[115] }, .int .i64 0, .int .i64 0, .string { data := #[109] }] w fun e w' => e = .returned (.tuple #[.string ⟨R.toArray⟩, .int .i64 0]) ∧ Below w.heap.size w w' :=
  ssign_any { data := #[115] } 0 0 [109] R w (fun u => hR u) (by decide) (by decide) HY
theorem vfy_s0 : vfy (SG.value [115] 0 0) 0 [109] (SG.sig [115] 0 0 [109]) = (0, 0) := by
  have h := vfy_sig [115] [109] 0 0 (by decide) (by decide)
  have e0 : ((0 : Nat) : Int) = 0 := rfl
  rw [e0] at h
  exact h
theorem vfy_m0 : vfy (SG.value [115] 0 0) 0 [109] (SG.sig [115] 0 0 [109] ++ [120]) = (0, 6) := by
  have h := vfy_more [115] [109] [120] 0 0 (by decide) (by decide) (by decide)
  have e0 : ((0 : Nat) : Int) = 0 := rfl
  rw [e0] at h
  exact h
theorem svfy_0 (w : World) (P R : List UInt8) (hP : Unit → SG.value [115] 0 0 = P) (hR : Unit → SG.sig [115] 0 0 [109] = R) (hl : R.length = 561) (t : ByteArray) (ht : t = ⟨R.toArray⟩) (HY : Lay w) : Calls Tryd.prog 22 #[.agg (P.map B8).toArray, .int .i64 0, .string { data := #[109] }, .string t] w fun e w' => e = .returned (.tuple #[.int .i64 0, .int .i64 0]) ∧ Below w.heap.size w w' := by
  subst ht
  exact sverify_any P [109] 0 0 0 ⟨R.toArray⟩ w (fun _ => by rw [str_toList, ← hP (), ← hR ()]; exact vfy_s0) (by rw [← hP ()]; exact SG.value_length _ _ _) (by decide) (by rw [str_size, hl]; decide) HY
theorem svfy_6 (w : World) (P R : List UInt8) (hP : Unit → SG.value [115] 0 0 = P) (hR : Unit → SG.sig [115] 0 0 [109] = R) (hl : R.length = 561) (t : ByteArray) (ht : t = (⟨R.toArray⟩ : ByteArray) ++ { data := #[120] }) (HY : Lay w) : Calls Tryd.prog 22 #[.agg (P.map B8).toArray, .int .i64 0, .string { data := #[109] }, .string t] w fun e w' => e = .returned (.tuple #[.int .i64 0, .int .i64 6]) ∧ Below w.heap.size w w' := by
  have e : t = ⟨(R ++ [120]).toArray⟩ := by rw [ht, str_appL]
  have hv : Unit → vfy P 0 [109] t.data.toList = (0, 6) := fun _ => by rw [e, str_toList, ← hP (), ← hR ()]; exact vfy_m0
  have hz : t.size ≤ 1000000 := by
    rw [e, str_size, List.length_append, hl]
    simp only [List.length_cons, List.length_nil]
    omega
  have hp : P.length = 16 := by rw [← hP ()]; exact SG.value_length _ _ _
  clear ht e
  exact sverify_any P [109] 0 0 6 t w hv hp (by decide) hz HY
theorem scount_3 (w : World) : Calls Tryd.prog 12 #[.int .i64 3] w fun e w' => e = .returned (.int .i64 8) ∧ w = w' := by
  have h : cnt 3 = 8 := by decide +kernel
  have e8 : ((8 : Nat) : Int) = 8 := rfl
  have := count_to 3 8 w h
  rw [e8] at this
  exact this
theorem ssize_593 (w : World) : Calls Tryd.prog 14 #[.int .i64 2, .int .i64 3] w fun e w' => e = .returned (.int .i64 593) ∧ Below w.heap.size w w' := by
  have h := siz_at (m := 2) (k := 3) (by decide) (by decide)
  have e2 : ((2 : Nat) : Int) = 2 := rfl
  have e3 : ((3 : Nat) : Int) = 3 := rfl
  rw [e2, e3] at h
  have e : ((593 : Nat) : Int) = 593 := rfl
  have := size_any 2 3 593 w h
  rw [e] at this
  exact this
theorem ssize_561 (w : World) : Calls Tryd.prog 14 #[.int .i64 0, .int .i64 0] w fun e w' => e = .returned (.int .i64 561) ∧ Below w.heap.size w w' := by
  have h := siz_at (m := 0) (k := 0) (by decide) (by decide)
  have e0 : ((0 : Nat) : Int) = 0 := rfl
  rw [e0] at h
  have e : ((561 : Nat) : Int) = 561 := rfl
  have := size_any 0 0 561 w h
  rw [e] at this
  exact this

set_option maxRecDepth 100000 in
set_option maxHeartbeats 3200000 in
theorem sanity_any (w : World) (HY : Lay w) :
    Calls Tryd.prog 9 #[] w fun e w' => e = .returned (.bool true) ∧ Below w.heap.size w w' := by
  obtain ⟨P, hP⟩ : ∃ P, (Unit → SG.value [115] 0 0 = P) := ⟨_, fun _ => rfl⟩
  obtain ⟨R, hR⟩ : ∃ R, (Unit → SG.sig [115] 0 0 [109] = R) := ⟨_, fun _ => rfl⟩
  have hPl : Hid (P.length = 16) := by rw [← hP ()]; exact SG.value_length _ _ _
  have hRl : Hid (R.length = 561) := by rw [← hR ()]; exact SG.sig_length _ _ _ _ (by decide)
  obtain ⟨Z, hZ⟩ : ∃ Z, (Unit → SM.zeros 16 = Z) := ⟨_, fun _ => rfl⟩
  have hZl : Hid (Z.length = 16) := by rw [← hZ ()]; rfl
  have hAl : Hid ((dgA.map N8).length = 35) := by rfl
  have hBl : Hid ((dgB.map N8).length = 35) := by rfl
  go_enter Tryd.func9, Tryd.ntmps9
  go_wp2_with (with_reducible refine wpList_build (o := ⟨some 16, .build 23 #[], _, _, _, _⟩) ?g1 23 #[] ?o1 #[] ?x1 (.agg ((SM.zeros 16).map B8).toArray) ?r1 ?_)
  try (case x1 => first | rfl | simp)
  try (case g1 => rfl)
  try (case o1 => rfl)
  try (case r1 => exact Tryd.build44)
  (with_reducible refine (sdig_A _).mono ?_)
  rintro e w1 ⟨rfl, hb1⟩
  go_wp2_with (with_reducible refine wpList_alloc (o := ⟨some 1, .alloc 25, _, _, _, _⟩) (by with_unfolding_all rfl) 25 (by with_unfolding_all rfl) (.agg ((List.replicate 35 0).map N8).toArray) ((List.replicate 35 0).map N8) (by exact Tryd.zero51) (by with_unfolding_all rfl) ?_)
  intro g1 w2 hg1 hs2 hb2 hB2
  have hle1 : w1.heap.size ≤ g1 := Nat.le_of_eq hg1.out.symm
  go_wp2_with (with_reducible refine wpList_put (o := ⟨none, .store 25 (.tmp 1) (.tmp 17), _, _, _, _⟩) (by with_unfolding_all rfl) 25 (.tmp 1) (.tmp 17) (by with_unfolding_all rfl) g1 0 (by with_unfolding_all rfl) (.agg (dgA.map N8).toArray) (by with_unfolding_all rfl) hB2 (dgA.map N8) (by with_unfolding_all rfl) (by rw [hAl.out]; exact Tryd.size51) (by with_unfolding_all (rw [hAl.out]; exact Nat.le_refl _)) (N8_one _) ?_)
  intro w3 hu3 hB3
  rw [splice_all _ _ (by rw [hAl.out]; rfl)] at hB3
  have hbel3 := below_join hb1 ((hb2.mono hle1).trans (hu3.below (B := w1.heap.size) hle1))
  clear hb1 hb2 hB2 hu3 hg1 hs2 hle1
  go_wp2_with (with_reducible refine wpList_build (o := ⟨some 18, .build 23 #[(0, .const (.int .u8 255)), (1, .const (.int .u8 16))], _, _, _, _⟩) (by with_unfolding_all rfl) 23 #[(0, .const (.int .u8 255)), (1, .const (.int .u8 16))] (by with_unfolding_all rfl) #[(0, .int .u8 255), (1, .int .u8 16)] (by with_unfolding_all rfl) (.agg (D2L.map B8).toArray) (by exact Tryd.build23) ?_)
  (with_reducible refine (sdig_B _).mono ?_)
  rintro e w4 ⟨rfl, hb4⟩
  have hA4 := hB3.next hb4 hB3.lt
  have hbel4 := below_join hbel3 hb4
  clear hB3 hbel3 hb4
  go_wp2_with (with_reducible refine wpList_alloc (o := ⟨some 2, .alloc 25, _, _, _, _⟩) (by with_unfolding_all rfl) 25 (by with_unfolding_all rfl) (.agg ((List.replicate 35 0).map N8).toArray) ((List.replicate 35 0).map N8) (by exact Tryd.zero51) (by with_unfolding_all rfl) ?_)
  intro g2 w5 hg2 hs5 hb5 hB5
  have hle2 : w4.heap.size ≤ g2 := Nat.le_of_eq hg2.out.symm
  go_wp2_with (with_reducible refine wpList_put (o := ⟨none, .store 25 (.tmp 2) (.tmp 19), _, _, _, _⟩) (by with_unfolding_all rfl) 25 (.tmp 2) (.tmp 19) (by with_unfolding_all rfl) g2 0 (by with_unfolding_all rfl) (.agg (dgB.map N8).toArray) (by with_unfolding_all rfl) hB5 (dgB.map N8) (by with_unfolding_all rfl) (by rw [hBl.out]; exact Tryd.size51) (by with_unfolding_all (rw [hBl.out]; exact Nat.le_refl _)) (N8_one _) ?_)
  intro w6 hu6 hB6
  rw [splice_all _ _ (by rw [hBl.out]; rfl)] at hB6
  have hb6 : Below w4.heap.size w4 w6 := (hb5.mono hle2).trans (hu6.below (B := w4.heap.size) hle2)
  have hA6 := hA4.next hb6 hA4.lt
  have hbel6 := below_join hbel4 hb6
  clear hA4 hbel4 hb6 hb5 hB5 hu6 hg2 hs5 hle2
  go_wp2_with fail
  (with_reducible refine (spub_7 _ Z hZ (HY.next hbel6)).mono ?_)
  rintro e w7 ⟨rfl, hb7⟩
  have hA7 := hA6.next hb7 hA6.lt
  have hB7 := hB6.next hb7 hB6.lt
  have hbel7 := below_join hbel6 hb7
  clear hA6 hB6 hbel6 hb7
  go_wp2_with (with_reducible refine wpList_alloc (o := ⟨some 3, .alloc 23, _, _, _, _⟩) (by with_unfolding_all rfl) 23 (by with_unfolding_all rfl) (aggB (SM.zeros 16)) zero16 (by exact Tryd.zero44) (by with_unfolding_all rfl) ?_)
  intro g3 w8 hg3 hs8 hb8 hB8
  have hle3 : w7.heap.size ≤ g3 := Nat.le_of_eq hg3.out.symm
  go_wp2_with (with_reducible refine wpList_put (o := ⟨none, .store 23 (.tmp 3) (.tmp 22), _, _, _, _⟩) (by with_unfolding_all rfl) 23 (.tmp 3) (.tmp 22) (by with_unfolding_all rfl) g3 0 (by with_unfolding_all rfl) (.agg (Z.map B8).toArray) (by with_unfolding_all rfl) hB8 (Z.map B8) (by with_unfolding_all rfl) (by rw [List.length_map, hZl.out]; exact Tryd.size44) (by with_unfolding_all (rw [List.length_map, hZl.out]; exact Nat.le_refl _)) (B8_one _) ?_)
  intro w9 hu9 hB9
  have hb9 : Below w7.heap.size w7 w9 := (hb8.mono hle3).trans (hu9.below (B := w7.heap.size) hle3)
  have hA9 := hA7.next hb9 hA7.lt
  have hB9' := hB7.next hb9 hB7.lt
  have hbel9 := below_join hbel7 hb9
  clear hA7 hB7 hbel7 hb9 hb8 hB8 hu9 hg3 hs8 hle3 hB9
  go_wp2_with fail
  (with_reducible refine (ssign_2 _ (HY.next hbel9)).mono ?_)
  rintro e w10 ⟨rfl, hb10⟩
  have hA10 := hA9.next hb10 hA9.lt
  have hB10 := hB9'.next hb10 hB9'.lt
  have hbel10 := below_join hbel9 hb10
  clear hA9 hB9' hbel9 hb10
  go_wp2_with fail
  (with_reducible refine (spub_0 _ P hP (HY.next hbel10)).mono ?_)
  rintro e w11 ⟨rfl, hb11⟩
  have hA11 := hA10.next hb11 hA10.lt
  have hB11 := hB10.next hb11 hB10.lt
  have hbel11 := below_join hbel10 hb11
  clear hA10 hB10 hbel10 hb11
  go_wp2_with (with_reducible refine wpList_alloc (o := ⟨some 7, .alloc 23, _, _, _, _⟩) (by with_unfolding_all rfl) 23 (by with_unfolding_all rfl) (aggB (SM.zeros 16)) zero16 (by exact Tryd.zero44) (by with_unfolding_all rfl) ?_)
  intro g7 w12 hg7 hs12 hb12 hB12
  have hle7 : w11.heap.size ≤ g7 := Nat.le_of_eq hg7.out.symm
  go_wp2_with (with_reducible refine wpList_put (o := ⟨none, .store 23 (.tmp 7) (.tmp 30), _, _, _, _⟩) (by with_unfolding_all rfl) 23 (.tmp 7) (.tmp 30) (by with_unfolding_all rfl) g7 0 (by with_unfolding_all rfl) (.agg (P.map B8).toArray) (by with_unfolding_all rfl) hB12 (P.map B8) (by with_unfolding_all rfl) (by rw [List.length_map, hPl.out]; exact Tryd.size44) (by with_unfolding_all (rw [List.length_map, hPl.out]; exact Nat.le_refl _)) (B8_one _) ?_)
  intro w13 hu13 hP13
  rw [splice_all _ _ (by rw [List.length_map, hPl.out]; rfl)] at hP13
  have hb13 : Below w11.heap.size w11 w13 := (hb12.mono hle7).trans (hu13.below (B := w11.heap.size) hle7)
  have hA13 := hA11.next hb13 hA11.lt
  have hB13 := hB11.next hb13 hB11.lt
  have hbel13 := below_join hbel11 hb13
  clear hA11 hB11 hbel11 hb13 hb12 hB12 hu13 hg7 hs12 hle7
  go_wp2_with fail
  (with_reducible refine (ssign_0 _ R hR (HY.next hbel13)).mono ?_)
  rintro e w14 ⟨rfl, hb14⟩
  have hA14 := hA13.next hb14 hA13.lt
  have hB14 := hB13.next hb14 hB13.lt
  have hP14 := hP13.next hb14 hP13.lt
  have hbel14 := below_join hbel13 hb14
  clear hA13 hB13 hP13 hbel13 hb14
  obtain ⟨ts, hts⟩ : ∃ ts : ByteArray, Hid (ts = ⟨R.toArray⟩) := ⟨_, rfl⟩
  have htz : Hid (ts.size = 561) := by
    have : ts.size = 561 := by rw [hts.out, str_size]; exact hRl.out
    exact this
  rw [← hts.out]
  have htl : ts.size ≤ 1000 := by rw [htz.out]; decide
  go_wp2_with (with_reducible refine wpList_get (o := ⟨some 37, .load 23 (.tmp 7), _, _, _, _⟩) (by with_unfolding_all rfl) 23 (.tmp 7) (by with_unfolding_all rfl) g7 0 (by with_unfolding_all rfl) hP14 (P.map B8) (cs_all _) (.array 16 5) (by exact Tryd.underlying23) (by with_unfolding_all rfl) (by rw [List.length_map, hPl.out]; exact Tryd.size44) ?_)
  (with_reducible refine (svfy_0 _ P R hP hR hRl.out ts hts.out (HY.next hbel14)).mono ?_)
  rintro e w15 ⟨rfl, hb15⟩
  have hA15 := hA14.next hb15 hA14.lt
  have hB15 := hB14.next hb15 hB14.lt
  have hP15 := hP14.next hb15 hP14.lt
  have hbel15 := below_join hbel14 hb15
  clear hA14 hB14 hP14 hbel14 hb15
  go_wp2_with (with_reducible refine wpList_get (o := ⟨some 43, .load 23 (.tmp 7), _, _, _, _⟩) (by with_unfolding_all rfl) 23 (.tmp 7) (by with_unfolding_all rfl) g7 0 (by with_unfolding_all rfl) hP15 (P.map B8) (cs_all _) (.array 16 5) (by exact Tryd.underlying23) (by with_unfolding_all rfl) (by rw [List.length_map, hPl.out]; exact Tryd.size44) ?_)
  (with_reducible refine (svfy_6 _ P R hP hR hRl.out _ (by rw [hts.out]) (HY.next hbel15)).mono ?_)
  rintro e w16 ⟨rfl, hb16⟩
  have hA16 := hA15.next hb16 hA15.lt
  have hB16 := hB15.next hb16 hB15.lt
  have hbel16 := below_join hbel15 hb16
  clear hA15 hB15 hP15 hbel15 hb16
  have cg10 : w16.cell? ⟨g1, 0, none⟩ = some (.int .i64 0) := hA16.cell (k := 0) rfl
  have cg131 : w16.cell? ⟨g1, 31, none⟩ = some (.int .i64 0) := hA16.cell (k := 31) rfl
  have cg132 : w16.cell? ⟨g1, 32, none⟩ = some (.int .i64 1) := hA16.cell (k := 32) rfl
  have cg133 : w16.cell? ⟨g1, 33, none⟩ = some (.int .i64 14) := hA16.cell (k := 33) rfl
  have cg134 : w16.cell? ⟨g1, 34, none⟩ = some (.int .i64 0) := hA16.cell (k := 34) rfl
  have cg20 : w16.cell? ⟨g2, 0, none⟩ = some (.int .i64 15) := hB16.cell (k := 0) rfl
  have cg21 : w16.cell? ⟨g2, 1, none⟩ = some (.int .i64 15) := hB16.cell (k := 1) rfl
  have cg22 : w16.cell? ⟨g2, 2, none⟩ = some (.int .i64 1) := hB16.cell (k := 2) rfl
  have cg23 : w16.cell? ⟨g2, 3, none⟩ = some (.int .i64 0) := hB16.cell (k := 3) rfl
  have cg232 : w16.cell? ⟨g2, 32, none⟩ = some (.int .i64 1) := hB16.cell (k := 32) rfl
  have cg233 : w16.cell? ⟨g2, 33, none⟩ = some (.int .i64 12) := hB16.cell (k := 33) rfl
  have cg234 : w16.cell? ⟨g2, 34, none⟩ = some (.int .i64 1) := hB16.cell (k := 34) rfl
  go_wp2_with fail
  (with_reducible refine (scount_3 _).mono ?_)
  rintro e w' ⟨rfl, rfl⟩
  go_wp2_with fail
  (with_reducible refine (ssize_593 _).mono ?_)
  rintro e w17 ⟨rfl, hb17⟩
  go_wp2_with fail
  (with_reducible refine (ssize_561 _).mono ?_)
  rintro e w18 ⟨rfl, hb18⟩
  have hbel18 := below_join (below_join hbel16 hb17) hb18
  have htz2 : ((ts.size : Int) == 561) = true := by rw [htz.out]; rfl
  go_wp2
  go_ret
  exact ⟨rfl, hbel18⟩
end Go.Proofs.YtkakiepaffhhjaaDoor

/-
  Contracts of layer 3's functions at messages as strings. Conditions: as the contracts they come from.
-/
namespace Go.Proofs.YtkakiepaffhhjaaDoor
open Go.RowKit

theorem str_eta (s : ByteArray) : ∃ l : List UInt8, s = ⟨l.toArray⟩ ∧ s.data.toList = l := ⟨s.data.toList, by cases s; simp, rfl⟩
theorem sverify_b (pub : List UInt8) (h n e : Int) (ms t : ByteArray) (w : World) (hV : Unit → vfy pub h ms.data.toList t.data.toList = (n, e)) (hp : pub.length = 16) (hm : ms.size ≤ 1000000) (hs : t.size ≤ 1000000) (HY : Lay w) :
    Calls Tryd.prog 22 #[.agg (pub.map B8).toArray, .int .i64 h, .string ms, .string t] w fun x w' => x = .returned (.tuple #[.int .i64 n, .int .i64 e]) ∧ Below w.heap.size w w' := by
  obtain ⟨ml, rfl, e2⟩ := str_eta ms
  rw [e2] at hV
  rw [str_size] at hm
  exact sverify_any pub ml h n e t w hV hp hm hs HY
theorem rverify_b (pub : List UInt8) (h n e : Int) (ms t : ByteArray) (w : World) (hV : Unit → vfy pub h ms.data.toList t.data.toList = (n, e)) (hp : pub.length = 16) (hm : ms.size ≤ 1000000) (hs : t.size ≤ 1000000) (HY : LayC w) :
    Calls Tryd.prog 23 #[.agg (pub.map B8).toArray, .int .i64 h, .string ms, .string t] w fun x w' => x = .returned (.tuple #[.int .i64 n, .int .i64 e]) ∧ Below w.heap.size w w' := by
  obtain ⟨ml, rfl, e2⟩ := str_eta ms
  rw [e2] at hV
  rw [str_size] at hm
  exact rverify_any pub ml h n e t w hV hp hm hs HY
theorem ssign_b (seed : ByteArray) (h i : Int) (ms R : ByteArray) (e : Int) (w : World) (hR : Unit → sgS seed.data.toList h i ms.data.toList = R.data.toList) (he : sgE h i = e) (hs : seed.size ≤ 10000000) (hm : ms.size ≤ 1000000) (HY : Lay w) :
    Calls Tryd.prog 18 #[.string seed, .int .i64 h, .int .i64 i, .string ms] w fun x w' => x = .returned (.tuple #[.string R, .int .i64 e]) ∧ Below w.heap.size w w' := by
  obtain ⟨ml, rfl, e2⟩ := str_eta ms
  obtain ⟨Rl, rfl, e3⟩ := str_eta R
  rw [e2, e3] at hR
  rw [str_size] at hm
  rw [← he]
  exact ssign_any seed h i ml Rl w hR hs hm HY
theorem rsign_b (seed : ByteArray) (h i : Int) (ms R : ByteArray) (e : Int) (w : World) (hR : Unit → sgS seed.data.toList h i ms.data.toList = R.data.toList) (he : sgE h i = e) (hs : seed.size ≤ 10000000) (hm : ms.size ≤ 1000000) (HY : LayC w) :
    Calls Tryd.prog 19 #[.string seed, .int .i64 h, .int .i64 i, .string ms] w fun x w' => x = .returned (.tuple #[.string R, .int .i64 e]) ∧ Below w.heap.size w w' := by
  obtain ⟨ml, rfl, e2⟩ := str_eta ms
  obtain ⟨Rl, rfl, e3⟩ := str_eta R
  rw [e2, e3] at hR
  rw [str_size] at hm
  rw [← he]
  exact rsign_any seed h i ml Rl w hR hs hm HY
theorem smessage_b (pub : List UInt8) (i : Int) (ms : ByteArray) (D : List UInt8) (w : World) (hD : Unit → SG.message pub i ms.data.toList = D) (hp : pub.length = 16) (hi : WM.okI i) (hm : ms.size ≤ 1000000) (HY : Lay w) :
    Calls Tryd.prog 20 #[.agg (pub.map B8).toArray, .int .i64 i, .string ms] w fun e w' => e = .returned (.agg (D.map B8).toArray) ∧ Below w.heap.size w w' := by
  obtain ⟨ml, rfl, e2⟩ := str_eta ms
  rw [e2] at hD
  rw [str_size] at hm
  exact smessage_any pub i ml D w hD hp hi hm HY
theorem rmessage_b (pub : List UInt8) (i : Int) (ms : ByteArray) (D : List UInt8) (w : World) (hD : Unit → SG.message pub i ms.data.toList = D) (hp : pub.length = 16) (hi : WM.okI i) (hm : ms.size ≤ 1000000) (HY : LayC w) :
    Calls Tryd.prog 21 #[.agg (pub.map B8).toArray, .int .i64 i, .string ms] w fun e w' => e = .returned (.agg (D.map B8).toArray) ∧ Below w.heap.size w w' := by
  obtain ⟨ml, rfl, e2⟩ := str_eta ms
  rw [e2] at hD
  rw [str_size] at hm
  exact rmessage_any pub i ml D w hD hp hi hm HY
theorem rroot_b (pub : List UInt8) (m k : Nat) (ms s : ByteArray) (D : List UInt8) (w : World) (hD : Unit → SG.root pub k ms.data.toList s.data.toList m = D) (hm6 : m ≤ 6) (hk64 : k < 64) (hp : pub.length = 16) (hm : ms.size ≤ 1000000) (hs : s.size = 16 * (35 + m)) (HY : LayC w) :
    Calls Tryd.prog 25 #[.agg (pub.map B8).toArray, .int .i64 m, .int .i64 k, .string ms, .string s] w fun e w' => e = .returned (.agg (D.map B8).toArray) ∧ Below w.heap.size w w' := by
  obtain ⟨ml, rfl, e2⟩ := str_eta ms
  rw [e2] at hD
  rw [str_size] at hm
  exact rroot_any pub ml m k s D w hD hm6 hk64 hp hm hs HY
theorem run_eqlDig (D E : List UInt8) (hD : D.length = 16) (hE : E.length = 16) (w : World) : (binOp .eql 23 (.agg (D.map B8).toArray) (.agg (E.map B8).toArray)).run Tryd.prog w = .ok (.bool (decide (D = E))) w := eql_arr w 23 16 Tryd.underlying23 D E hD hE
end Go.Proofs.YtkakiepaffhhjaaDoor

/-
  An argument that is a slice of bytes, read. Conditions: the row's own.
-/
namespace Go.Proofs.YtkakiepaffhhjaaDoor
open Go.ChangeShapes Go.WideShapes Go.ChangeAt Go.RowKit

/-- How long a slice that came in is, as its datum tells. -/
def LenOf {H : Type} (d : DataW H) (len : Nat) : Prop := len = 0 ∨ ∃ es sp, d = .slice es sp ∧ es.length = len
theorem LenOf.reach {H : Type} {P : Program} {ts : List TypeId} {ds : List (DataW H)} {d : DataW H} {len j b : Nat} {t e : TypeId} (hl : LenOf d len) (h : (DataW.weightsEach P ts ds).all (· ≤ reachBytes) = true) (ht : ts[j]? = some t) (hd : ds[j]? = some d) (hu : P.underlying t = some (.slice e)) (hb : P.bytesOf e = b) : len * b ≤ 140737488351232 := by
  rcases hl with rfl | ⟨es, sp, rfl, rfl⟩
  · omega
  · have := sized_slice h ht hd hu
    rw [hb] at this
    have h2 : es.length * b ≤ (es.length + sp.length) * b := Nat.mul_le_mul_right _ (by omega)
    simp only [reachBytes] at this
    omega
theorem u8_of {n : Int} (h : (Lit.int .u8 n).wf = true) : (Value.int .u8 n) = B8 (UInt8.ofNat n.toNat) := by
  have h1 : IntKind.u8.min = 0 := rfl
  have h2 : IntKind.u8.max = 255 := rfl
  simp only [Lit.wf, Bool.and_eq_true, decide_eq_true_eq] at h
  have e : (UInt8.ofNat n.toNat).toNat = n.toNat := by simp [UInt8.toNat_ofNat']; omega
  unfold B8
  rw [e, Int.toNat_of_nonneg (by omega)]

section
variable {H : Type} {enc : TypeId × Value → H} {W : World} {a : Option Addr} {len cap : Nat} {d : DataW H} {p : List MemPlace}
/-- A []byte that came in. -/
theorem open_bytes (h : DataW.Trod enc Tryd.prog W 0 (fun _ => true) true 43 (.slice a len cap) d p) : ∃ l : List UInt8, len = l.length ∧ len ≤ cap ∧ len ≤ 9223372036854775807 ∧ Holds W a (l.map B8) ∧ LenOf d len := by
  obtain ⟨fuel, hf⟩ := h
  rcases open_ints Tryd.underlying43 Tryd.underlying5 (by kernel_rfl) hf with ⟨hcs, _⟩ | ⟨x, l, c, zs, hcs, _, hl, hm, hz, hx, hcell, hwz⟩
  · simp [Value.cells] at hcs
    obtain ⟨rfl, rfl, rfl⟩ := hcs
    exact ⟨[], rfl, Nat.le_refl _, by omega, (fun k u hu => by simp at hu), .inl rfl⟩
  · simp [Value.cells] at hcs
    obtain ⟨rfl, rfl, rfl⟩ := hcs
    unfold maxLen at hm
    have hz' : zs.length = cap := by simpa using hz
    have hlo : LenOf d len := by simp only [Prod.mk.injEq] at hx; exact .inr ⟨_, _, hx.1, by simp [lits]; omega⟩
    refine ⟨(zs.take len).map (fun n => UInt8.ofNat n.toNat), by simp; omega, hl, by omega, fun k u hu => ⟨x, rfl, ?_⟩, hlo⟩
    have hk : k < len := by
      rcases Nat.lt_or_ge k len with h | h
      · exact h
      · rw [List.getElem?_eq_none (by simp; omega)] at hu; cases hu
    have hkz : k < zs.length := by omega
    rw [hcell k hkz, ← hu]
    have hw := u8_of (hwz zs[k] (List.getElem_mem hkz))
    simp only [List.getElem?_map, List.getElem?_take, if_pos hk, List.getElem?_eq_getElem hkz, Option.map_some, List.getD_eq_getElem?_getD, Option.getD_some]
    rw [hw]
end
end Go.Proofs.YtkakiepaffhhjaaDoor

/-
  Arguments that are a slice of strings or an array of bytes, read. Conditions: the row's own.
-/
namespace Go.Proofs.YtkakiepaffhhjaaDoor
open Go.ChangeShapes Go.WideShapes Go.ChangeAt Go.RowKit
open Go.Deep (choose_lt open_slice)

section
variable {H : Type} {enc : TypeId × Value → H} {W : World} {a : Option Addr} {len cap : Nat} {d : DataW H} {p : List MemPlace}
/-- A []string that came in, with its datum. -/
theorem open_strd (h : DataW.Trod enc Tryd.prog W 0 (fun _ => true) true 60 (.slice a len cap) d p) : ∃ l : List ByteArray, len = l.length ∧ len ≤ cap ∧ len ≤ 9223372036854775807 ∧ Holds W a (l.map Value.string) ∧ (len = 0 ∨ ∃ sp, d = .slice (l.map fun s => .lit (.string s.data.toList)) sp) := by
  obtain ⟨fuel, hf⟩ := h
  rcases open_strings Tryd.underlying60 Tryd.underlying9 (by kernel_rfl) hf with ⟨hcs, _⟩ | ⟨x, l, c, zs, hcs, _, hl, hm, hz, hx, hcell, hwz⟩
  · simp [Value.cells] at hcs
    obtain ⟨rfl, rfl, rfl⟩ := hcs
    exact ⟨[], rfl, Nat.le_refl _, by omega, (fun k u hu => by simp at hu), .inl rfl⟩
  · simp [Value.cells] at hcs
    obtain ⟨rfl, rfl, rfl⟩ := hcs
    unfold maxLen at hm
    have hz' : zs.length = cap := by simpa using hz
    simp only [Prod.mk.injEq] at hx
    refine ⟨zs.take len, by simp; omega, hl, by omega, fun k u hu => ⟨x, rfl, ?_⟩, .inr ⟨_, hx.1⟩⟩
    have hk : k < len := by
      rcases Nat.lt_or_ge k len with h | h
      · exact h
      · rw [List.getElem?_eq_none (by simp; omega)] at hu; cases hu
    have hkz : k < zs.length := by omega
    rw [hcell k hkz, ← hu]
    simp [hk, List.getElem?_eq_getElem hkz]
end
theorem strd_lenOf {H : Type} {d : DataW H} {len : Nat} {l : List ByteArray} (h : len = 0 ∨ ∃ sp, d = .slice (l.map fun s => .lit (.string s.data.toList)) sp) (he : len = l.length) : LenOf d len := by
  rcases h with rfl | ⟨sp, rfl⟩
  · exact .inl rfl
  · exact .inr ⟨_, _, rfl, by simp [he]⟩
theorem weights_texts {H : Type} {P : Program} {t : TypeId} : ∀ (l : List ByteArray) (s : ByteArray), s ∈ l → s.data.toList.length ∈ DataW.weightsAll P t (l.map fun s => DataW.lit (H := H) (.string s.data.toList))
  | x :: r, s, h => by
    simp only [List.map_cons, DataW.weightsAll, List.mem_append]
    rcases List.mem_cons.1 h with rfl | h
    · exact .inl (by simp [DataW.weights])
    · exact .inr (weights_texts r s h)
theorem strd_reach {H : Type} {ts : List TypeId} {ds : List (DataW H)} {d : DataW H} {len j : Nat} {t e : TypeId} {l : List ByteArray} (h : len = 0 ∨ ∃ sp, d = .slice (l.map fun s => .lit (.string s.data.toList)) sp) (he : len = l.length)
    (hsz : (DataW.weightsEach Tryd.prog ts ds).all (· ≤ reachBytes) = true) (ht : ts[j]? = some t) (hd : ds[j]? = some d) (hu : Tryd.prog.underlying t = some (.slice e)) : ∀ s ∈ l, s.size ≤ 140737488351232 := by
  intro s hs
  rcases h with rfl | ⟨sp, rfl⟩
  · have : l = [] := List.eq_nil_of_length_eq_zero he.symm
    subst this
    cases hs
  · have hm := weights_texts (H := H) (P := Tryd.prog) (t := e) l s hs
    have := List.all_eq_true.1 hsz _ (DataW.weights_mem_each ht hd s.data.toList.length (by simp only [DataW.weights, hu]; exact List.mem_cons_of_mem _ (List.mem_append_left _ hm)))
    rw [bytes_size] at this
    have h2 : s.size ≤ reachBytes := of_decide_eq_true this
    exact h2

theorem okWide_arr {P : Program} {w : World} {r : Reach} {base : Nat} {t e : TypeId} {n : Nat} {v : Value} (ht : P.underlying t = some (.array n e)) (h : Value.okWide P w r base t v) : ∃ cs, v = .agg cs ∧ cs.size = P.cellsOf t := by
  simp only [Value.okWide, ht] at h
  obtain ⟨cs, h1, h2, _⟩ := h
  exact ⟨cs, h1, h2⟩
/-- An array of bytes that came in. -/
theorem open_arr {H : Type} {enc : TypeId × Value → H} {W : World} {t : TypeId} {N : Nat} {cs : Array Value} {d : DataW H} {p : List MemPlace} (hu : Tryd.prog.underlying t = some (.array N 5)) (hc : Tryd.prog.cellsOf t = N) (hs : cs.size = Tryd.prog.cellsOf t)
    (h : DataW.Trod enc Tryd.prog W 0 (fun _ => true) true t (.agg cs) d p) : ∃ l : List UInt8, l.length = N ∧ cs = (l.map B8).toArray := by
  obtain ⟨fuel, hf⟩ := h
  obtain ⟨xs, m, e1, _, hl, hxl, hi⟩ := DataW.trod_array hu hf
  have hcl : cs.toList.length = N := by rw [show cs.toList.length = cs.size from Array.length_toList, hs, hc]
  have hu5 : Tryd.prog.cellsOf 5 = 1 := by kernel_rfl
  have each : ∀ i, i < N → ∃ q : UInt8, cs.toList[i]? = some (B8 q) := fun i hiN => by
    have h1 := hi i hiN
    have e : (Value.agg cs).cells.toList = cs.toList := rfl
    rw [List.getElem?_eq_getElem (by omega), e, hu5, Nat.mul_one] at h1
    obtain ⟨z, hz, _, hw⟩ := DataW.trod_int Tryd.underlying5 h1
    have h2 : cs.toList[i]? = some (.int .u8 z) := by
      have : ((cs.toList.drop i).take 1)[0]? = some (.int .u8 z) := by rw [hz]; rfl
      rw [List.getElem?_take_of_lt (by omega), List.getElem?_drop] at this
      exact this
    exact ⟨_, by rw [h2, u8_of hw]⟩
  obtain ⟨f, hf⟩ := choose_lt (α := UInt8) (n := N) (p := fun i q => cs.toList[i]? = some (B8 q)) each
  refine ⟨(List.range N).map f, by simp, ?_⟩
  apply Array.toList_inj.1
  rw [List.toList_toArray]
  apply List.ext_getElem?
  intro i
  rcases Nat.lt_or_ge i N with h | h
  · rw [hf i h]; simp [h]
  · rw [List.getElem?_eq_none (by omega), List.getElem?_eq_none (by simp; omega)]
end Go.Proofs.YtkakiepaffhhjaaDoor
