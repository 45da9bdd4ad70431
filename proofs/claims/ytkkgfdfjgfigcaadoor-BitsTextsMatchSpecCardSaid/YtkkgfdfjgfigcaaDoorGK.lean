/-
  Contracts of the functions that the statement calls, part 11 of 25 (merged texts: Oa). Conditions: as the head of each part says.
-/
import Derived.Test.YtkkgfdfjgfigcaaDoorGJ
import Derived.ProofKit
import Derived.OpenShut
import Derived.ShutString
import Derived.ChangeOld
import Derived.SizedLaws
import Derived.SliceStrings
import Derived.Deep.Slices
import Derived.Deep.Fields
import Derived.ChangeSame

/-
  The arguments of layer 6's statements, read: a head, a pattern, a mod, a list of patterns. Conditions: the row's own.
-/
namespace Go.Proofs.YtkkgfdfjgfigcaaDoor
set_option linter.unusedVariables false
set_option linter.unusedSimpArgs false
open Go.ChangeShapes Go.WideShapes Go.ChangeAt Go.RowKit
open Go.Deep (choose_lt)

theorem okWide_arrB {P : Program} {w : World} {r : Reach} {base : Nat} {t e : TypeId} {n : Nat} {v : Value} (ht : P.underlying t = some (.array n e)) (h : Value.okWide P w r base t v) : ∃ cs, v = .agg cs ∧ cs.size = P.cellsOf t := by
  simp only [Value.okWide, ht] at h
  obtain ⟨cs, h1, h2, _⟩ := h
  exact ⟨cs, h1, h2⟩
/-- How long a slice that came in is, as its datum tells. -/
def LenOf {H : Type} (d : DataW H) (len : Nat) : Prop := len = 0 ∨ ∃ es sp, d = .slice es sp ∧ es.length = len
theorem LenOf.reach {H : Type} {P : Program} {ts : List TypeId} {ds : List (DataW H)} {d : DataW H} {len j b : Nat} {t e : TypeId} (hl : LenOf d len) (h : (DataW.weightsEach P ts ds).all (· ≤ reachBytes) = true) (ht : ts[j]? = some t) (hd : ds[j]? = some d) (hu : P.underlying t = some (.slice e)) (hb : P.bytesOf e = b) : len * b ≤ 140737488351232 := by
  rcases hl with rfl | ⟨es, sp, rfl, rfl⟩
  · omega
  · have := sized_slice h ht hd hu
    rw [hb] at this
    have h2 : es.length * b ≤ (es.length + sp.length) * b := Nat.mul_le_mul_right _ (by omega)
    simp only [reachBytes] at this
    omega
theorem cells10 {cs : List Value} {f : Nat → Int} (hl : cs.length = 10) (h : ∀ i, i < 10 → cs[i]? = some (iV (f i))) : cs = ((List.range 10).map f).map iV := by
  apply List.ext_getElem?
  intro i
  by_cases hi : i < 10
  · rw [h i hi, List.getElem?_map, List.getElem?_map, List.getElem?_range hi]; rfl
  · rw [List.getElem?_eq_none (by omega), List.getElem?_eq_none (by simp; omega)]
section
variable {H : Type} {enc : TypeId × Value → H} {W : World} {d : DataW H} {p : List MemPlace}
/-- Ten words that came in. -/
theorem head_of {base fuel : Nat} {cs : List Value} {y : DataW H × List MemPlace} (hf : DataW.trod enc Tryd.prog W base (fun _ => true) true fuel 23 cs = some y) (hcl : cs.length = 10) : ∃ l : List Int, l.length = 10 ∧ cs = l.map iV := by
  have c1 : Tryd.prog.cellsOf 3 = 1 := by kernel_rfl
  obtain ⟨xs, m, e1, _, hl, hxl, hi⟩ := DataW.trod_array Tryd.underlying23 hf
  have each : ∀ i, i < 10 → ∃ q : Int, cs[i]? = some (iV q) := fun i hiN => by
    have h1 := hi i hiN
    have hd : (cs.drop (i * 1)).take 1 = [cs[i]'(by omega)] := by rw [Nat.mul_one, List.drop_eq_getElem_cons (by omega)]; rfl
    rw [List.getElem?_eq_getElem (by omega), c1, hd] at h1
    obtain ⟨z, hz, _, _⟩ := DataW.trod_int Tryd.underlying3 h1
    injection hz with hz _
    exact ⟨z, by rw [List.getElem?_eq_getElem (by omega), hz]; rfl⟩
  obtain ⟨f, hfx⟩ := choose_lt each
  exact ⟨(List.range 10).map f, by simp, cells10 hcl hfx⟩
theorem two_heads {base n2 k0 k1 o0 o1 : Nat} {cs : List Value} {ys : List (DataW H × List MemPlace)} (hl : cs.length = 20) (hys : ys.length = 2) (e0 : k0 = 10) (e1 : k1 = 10) (e2 : o0 = 0) (e3 : o1 = 10)
    (h0 : DataW.trod enc Tryd.prog W base (fun _ => true) true n2 23 ((cs.drop o0).take k0) = ys[0]?) (h1 : DataW.trod enc Tryd.prog W base (fun _ => true) true n2 23 ((cs.drop o1).take k1) = ys[1]?) : ∃ r : List Int × List Int, (r.1.length = 10 ∧ r.2.length = 10) ∧ cs = rawCells r := by
  subst e0 e1 e2 e3
  rw [List.getElem?_eq_getElem (by omega)] at h0 h1
  obtain ⟨m, hm, e0⟩ := head_of h0 (by simp; omega)
  obtain ⟨b, hb, e1⟩ := head_of h1 (by simp; omega)
  refine ⟨(m, b), ⟨hm, hb⟩, ?_⟩
  show cs = m.map iV ++ b.map iV
  rw [← e0, ← e1, List.drop_zero, List.take_of_length_le (l := cs.drop 10) (by simp; omega), List.take_append_drop]
theorem pat_of {base fuel : Nat} {cs : List Value} {y : DataW H × List MemPlace} (hf : DataW.trod enc Tryd.prog W base (fun _ => true) true fuel 25 cs = some y) (hcl : cs.length = 20) : ∃ r : List Int × List Int, (r.1.length = 10 ∧ r.2.length = 10) ∧ cs = rawCells r := by
  obtain ⟨ys, n2, hn', hy, hlen, hyl, hfld⟩ := DataW.trod_struct Tryd.underlying25 hf
  have hys : ys.length = 2 := hyl
  exact two_heads hcl hys (by kernel_rfl) (by kernel_rfl) (by kernel_rfl) (by kernel_rfl) (hfld 0 _ rfl) (hfld 1 _ rfl)
theorem mod_of {base fuel : Nat} {cs : List Value} {y : DataW H × List MemPlace} (hf : DataW.trod enc Tryd.prog W base (fun _ => true) true fuel 88 cs = some y) (hcl : cs.length = 20) : ∃ r : List Int × List Int, (r.1.length = 10 ∧ r.2.length = 10) ∧ cs = rawCells r := by
  obtain ⟨ys, n2, hn', hy, hlen, hyl, hfld⟩ := DataW.trod_struct Tryd.underlying88 hf
  have hys : ys.length = 2 := hyl
  exact two_heads hcl hys (by kernel_rfl) (by kernel_rfl) (by kernel_rfl) (by kernel_rfl) (hfld 0 _ rfl) (hfld 1 _ rfl)
theorem open_head {cs : Array Value} (hs : cs.size = Tryd.prog.cellsOf 23) (h : DataW.Trod enc Tryd.prog W 0 (fun _ => true) true 23 (.agg cs) d p) : ∃ l : List Int, l.length = 10 ∧ cs = (l.map iV).toArray := by
  obtain ⟨fuel, hf⟩ := h
  have c : Tryd.prog.cellsOf 23 = 10 := by kernel_rfl
  have hf2 : DataW.trod enc Tryd.prog W 0 (fun _ => true) true fuel 23 cs.toList = some (d, p) := hf
  obtain ⟨l, hl, e⟩ := head_of hf2 (by rw [Array.length_toList, hs, c])
  exact ⟨l, hl, by rw [← e]⟩
theorem open_pat {cs : Array Value} (hs : cs.size = Tryd.prog.cellsOf 25) (h : DataW.Trod enc Tryd.prog W 0 (fun _ => true) true 25 (.agg cs) d p) : ∃ m b : List Int, m.length = 10 ∧ b.length = 10 ∧ cs = (m.map iV ++ b.map iV).toArray := by
  obtain ⟨fuel, hf⟩ := h
  have c : Tryd.prog.cellsOf 25 = 20 := by kernel_rfl
  have hf2 : DataW.trod enc Tryd.prog W 0 (fun _ => true) true fuel 25 cs.toList = some (d, p) := hf
  obtain ⟨r, ⟨h1, h2⟩, e⟩ := pat_of hf2 (by rw [Array.length_toList, hs, c])
  exact ⟨r.1, r.2, h1, h2, by rw [show r.1.map iV ++ r.2.map iV = rawCells r from rfl, ← e]⟩
theorem open_mod {cs : Array Value} (hs : cs.size = Tryd.prog.cellsOf 88) (h : DataW.Trod enc Tryd.prog W 0 (fun _ => true) true 88 (.agg cs) d p) : ∃ m b : List Int, m.length = 10 ∧ b.length = 10 ∧ cs = (m.map iV ++ b.map iV).toArray := by
  obtain ⟨fuel, hf⟩ := h
  have c : Tryd.prog.cellsOf 88 = 20 := by kernel_rfl
  have hf2 : DataW.trod enc Tryd.prog W 0 (fun _ => true) true fuel 88 cs.toList = some (d, p) := hf
  obtain ⟨r, ⟨h1, h2⟩, e⟩ := mod_of hf2 (by rw [Array.length_toList, hs, c])
  exact ⟨r.1, r.2, h1, h2, by rw [show r.1.map iV ++ r.2.map iV = rawCells r from rfl, ← e]⟩
instance : Inhabited (List Int × List Int) := ⟨([], [])⟩
/-- A list of patterns that came in. -/
theorem open_pats {a : Option Addr} {len cap : Nat} (h : DataW.Trod enc Tryd.prog W 0 (fun _ => true) true 82 (.slice a len cap) d p) : ∃ l : List (List Int × List Int), len = l.length ∧ Tens l ∧ RawAt W a l ∧ LenOf d len := by
  obtain ⟨fuel, hf⟩ := h
  have hf2 : DataW.trod enc Tryd.prog W 0 (fun _ => true) true fuel 82 [.slice a len cap] = some (d, p) := hf
  rcases Go.Deep.open_slice Tryd.underlying82 hf2 with ⟨hcs, hx⟩ | ⟨x, n, c, m, fl, D, Pl, hcs, _, hl, hm, hmm, hx, hel⟩
  · injection hcs with hcs _
    injection hcs with e1 e2 e3
    subst e1 e2 e3
    exact ⟨[], rfl, (fun y hy => by cases hy), (fun j y hy => by cases hy), .inl rfl⟩
  · injection hcs with hcs _
    injection hcs with e1 e2 e3
    subst e1 e2 e3
    have hmc : m = cap := by simpa using hmm
    have c20 : Tryd.prog.cellsOf 25 = 20 := by kernel_rfl
    have each : ∀ i, i < m → ∃ y : List Int × List Int, (y.1.length = 10 ∧ y.2.length = 10) ∧ ∀ (q : Nat) (u : Value), (rawCells y)[q]? = some u → W.cell? ((x.add (i * 20)).add q) = some u := fun i hi => by
      obtain ⟨cs', h1, h2⟩ := hel i hi
      rw [c20] at h1
      obtain ⟨hl4, hcl, hat⟩ := World.cells?_some h1
      obtain ⟨y, hy, rfl⟩ := pat_of h2 hcl
      exact ⟨y, hy, fun q u hu => by rw [hat q (by have := (List.getElem?_eq_some_iff.1 hu).1; rw [hcl] at this; exact this)]; exact hu⟩
    obtain ⟨f, hfx⟩ := choose_lt each
    refine ⟨(List.range len).map f, by simp, fun y hy => ?_, fun j y hy => ?_, ?_⟩
    · obtain ⟨j, hj, rfl⟩ := List.mem_map.1 hy
      exact (hfx j (by have := List.mem_range.1 hj; omega)).1
    · rw [List.getElem?_map] at hy
      have hj : j < len := by
        rcases Nat.lt_or_ge j len with h | h
        · exact h
        · rw [List.getElem?_eq_none (by simp; omega)] at hy; cases hy
      rw [List.getElem?_range hj] at hy
      injection hy with hy
      have hc := (hfx j (by omega)).2
      rw [hy] at hc
      exact ⟨x, rfl, hc⟩
    · simp only [Prod.mk.injEq] at hx
      exact .inr ⟨_, _, hx.1, by simp⟩
end
/-- Words that are all right are patterns. -/
theorem raw_pats : ∀ {l : List (List Int × List Int)}, Tens l → (l.all fun r => pairI r.1 r.2) = true → ∃ ps : List Pat, (∀ p ∈ ps, p.ok) ∧ rawOf ps = l
  | [], _, _ => ⟨[], (fun p hp => by cases hp), rfl⟩
  | r :: l, hT, h => by
    rw [List.all_cons, Bool.and_eq_true] at h
    obtain ⟨ps, h1, h2⟩ := raw_pats (l := l) (fun x hx => hT x (List.mem_cons_of_mem _ hx)) h.2
    have ht := hT r (List.mem_cons_self ..)
    obtain ⟨p, hp, e1, e2⟩ := right_pat ht.1 ht.2 h.1
    refine ⟨p :: ps, fun q hq => ?_, ?_⟩
    · rcases List.mem_cons.1 hq with rfl | hq
      · exact hp
      · exact h1 q hq
    · show (HI p.m, HI p.b) :: rawOf ps = _
      rw [e1, e2, h2]
theorem addr_eta {g o : Nat} {s : Option Nat} (h : s = none) : (⟨g, o, s⟩ : Addr) = ⟨g, o, none⟩ := by rw [h]
theorem RawAt.pats {w : World} {A : Option Addr} {l : List Pat} (h : RawAt w A (rawOf l)) : PatsAt w A l := fun k p hp => by
  have hk : k < l.length := (List.getElem?_eq_some_iff.1 hp).1
  have e0 : (rawOf l)[0]? = some (HI (l[0]'(by omega)).m, HI (l[0]'(by omega)).b) := by
    unfold rawOf
    rw [List.getElem?_map, List.getElem?_eq_getElem (by omega)]; rfl
  obtain ⟨ad, rfl, h0⟩ := h 0 _ e0
  rw [rawCells_pat] at h0
  have hc0 : 0 < (l[0]'(by omega)).cells.length := by rw [Pat.cells_length]; decide
  obtain ⟨u, hu⟩ : ∃ u, (l[0]'(by omega)).cells[0]? = some u := ⟨_, List.getElem?_eq_getElem hc0⟩
  have hs := World.cell?_spot (h0 0 u hu)
  have hsp : ad.spot = none := by simpa [Addr.add] using hs
  obtain ⟨g, o, s⟩ := ad
  have hsp' : s = none := hsp
  subst hsp'
  have ek : (rawOf l)[k]? = some (HI p.m, HI p.b) := by
    unfold rawOf
    rw [List.getElem?_map, hp]; rfl
  obtain ⟨ad, e, hc⟩ := h k _ ek
  injection e with e
  subst e
  rw [rawCells_pat] at hc
  refine ⟨g, o, rfl, fun q u hq => ?_⟩
  have h1 := hc q u hq
  rw [add_none, add_none] at h1
  exact h1
end Go.Proofs.YtkkgfdfjgfigcaaDoor
