/-
  The contracts of chapter 1's functions in the form in which the statements use them: slices are told by what they hold. Conditions: at most 10^9 bytes.
-/
import Derived.Test.YtkbmgkaopjjkoaaLits
namespace Go.Proofs.Ytkbmgkaopjjkoaa
open Go.RowKit

theorem holds_new (W : World) (cs : Array Value) (t : TypeId) (xs : List Value) (h : cs = xs.toArray) : Holds (W.alloc (.cells cs t)) (some ⟨W.heap.size, 0, none⟩) xs := fun _ _ hu => ⟨_, rfl, block_cells h hu⟩
/-- What a row that the call owns holds. -/
theorem holds_own {w : World} {base size : Nat} {E : TypeId} {v : Value} {n : Nat} {xs : List Value} (h : w.ownsRow base E size v n xs) : ∃ A cap, v = .slice A n cap ∧ n ≤ cap ∧ Holds w A xs := by
  have hl := h.1
  rcases h.2 with ⟨rfl, rfl⟩ | ⟨g, cap, cur, rfl, _, _, hc, _⟩
  · refine ⟨none, 0, rfl, Nat.le_refl _, fun k u hu => ?_⟩
    have : xs = [] := List.eq_nil_of_length_eq_zero (by omega)
    rw [this] at hu; simp at hu
  · exact ⟨_, cap, rfl, hc, fun k u hu => ⟨_, rfl, h.cells rfl k u hu⟩⟩

/-- A call that returns a slice of these bytes and leaves what was there. -/
def BytesPost (bs : List UInt8) (w : World) (e : Ending) (w' : World) : Prop := ∃ A c, e = .returned (.slice A bs.length c) ∧ bs.length ≤ c ∧ Holds w' A (bs.map B8) ∧ Below w.heap.size w w'
theorem BytesPost.of {bs : List UInt8} {w : World} {e : Ending} {w' : World} (h : PutPost bs w e w') : BytesPost bs w e w' := by
  obtain ⟨v, rfl, hown, hb⟩ := h
  obtain ⟨A, c, rfl, hc, hh⟩ := holds_own hown
  exact ⟨A, c, rfl, hc, hh, hb⟩
/-- A call that returns a slice of these values, a number and an error. -/
def ListPost (n : Nat) (xs : List Value) (u : Nat) (x : Int) (w : World) (e : Ending) (w' : World) : Prop :=
  ∃ A c, e = .returned (.tuple #[.slice A n c, .int .i64 (u : Int), .int .i64 x]) ∧ n ≤ c ∧ Holds w' A xs ∧ Below w.heap.size w w'
/-- A call that returns this and leaves what was there. -/
def ValPost (v : Value) (w : World) (e : Ending) (w' : World) : Prop := e = .returned v ∧ Below w.heap.size w w'
theorem ValPost.of {v : Value} {w : World} {e : Ending} {w' : World} (h : e = .returned v ∧ w = w') : ValPost v w e w' := by
  obtain ⟨rfl, rfl⟩ := h
  exact ⟨rfl, Below.refl _ _⟩

theorem use_int (n : Int) (w : World) (h : WM.okI n) : Calls Try.prog 14 #[.int .i64 n] w (BytesPost (WM.encI n) w) := (int_any n w h.1 h.2).mono fun _ _ h => .of h
theorem use_bytes (s : ByteArray) (w : World) (h : s.size ≤ 1000000000) : Calls Try.prog 16 #[.string s] w (BytesPost (WM.encB s.data.toList) w) := (bytes_any s w h).mono fun _ _ h => .of h
theorem use_ints (A : Option Addr) (m cap : Nat) (xs : List Int) (w : World) (hm : m = xs.length) (hok : ∀ x ∈ xs, WM.okI x) (hl : (WM.encAll WM.encI xs).length ≤ 1000000000) (hn : xs.length ≤ 1000000000) (hh : Holds w A (xs.map (Value.int .i64))) :
    Calls Try.prog 18 #[.slice A m cap] w (BytesPost (WM.encAll WM.encI xs) w) := by subst hm; exact (ints_any A cap xs w hok hl hn hh).mono fun _ _ h => .of h
theorem use_strings (A : Option Addr) (m cap : Nat) (xs : List ByteArray) (w : World) (hm : m = xs.length) (hl : (WM.encAll WM.encB (strs xs)).length ≤ 1000000000) (hn : xs.length ≤ 1000000000) (hh : Holds w A (xs.map Value.string)) :
    Calls Try.prog 20 #[.slice A m cap] w (BytesPost (WM.encAll WM.encB (strs xs)) w) := by subst hm; exact (strings_any A cap xs w hl hn hh).mono fun _ _ h => .of h
theorem use_digests (A : Option Addr) (m cap : Nat) (xs : List (List UInt8)) (w : World) (hm : m = xs.length) (hok : ∀ x ∈ xs, WM.okD x) (hl : (WM.encAll (fun d => d) xs).length ≤ 1000000000) (hn : xs.length ≤ 1000000000) (hh : Holds w A (digCells xs)) :
    Calls Try.prog 22 #[.slice A m cap] w (BytesPost (WM.encAll (fun d => d) xs) w) := by subst hm; exact (digests_any A cap xs w hok hl hn hh).mono fun _ _ h => .of h

theorem BytesPost.eq {bs cs : List UInt8} {w : World} {P : Program} {f : FuncId} {args : Array Value} (he : bs = cs) (h : Calls P f args w (BytesPost bs w)) : Calls P f args w (BytesPost cs w) := he ▸ h
section
variable (A : Option Addr) (m cap : Nat) (w : World) {l : List UInt8} (hm : m = l.length) (hl : l.length ≤ 1000000000) (hcap : l.length ≤ cap) (hh : Holds w A (l.map B8))
include hm hl hh
theorem use_getInt {n : Int} {u : Nat} {x : Int} (h : WM.getI l = (n, u, x)) : Calls Try.prog 24 #[.slice A m cap] w (ValPost (.tuple #[.int .i64 n, .int .i64 (u : Int), .int .i64 x]) w) :=
  (getInt_n h A m cap w hm hl hh).mono fun _ _ h => .of h
include hcap
theorem use_getBytes {s : List UInt8} {u : Nat} {x : Int} (h : WM.getB l = (s, u, x)) : Calls Try.prog 26 #[.slice A m cap] w (ValPost (.tuple #[.string ⟨s.toArray⟩, .int .i64 (u : Int), .int .i64 x]) w) :=
  (getBytes_n h A m cap w hm hl (by omega) hh).mono fun _ _ h => .of h
theorem use_getInts {xs : List Int} {u : Nat} {x : Int} (h : WM.getAll WM.getI 1 l = (xs, u, x)) : Calls Try.prog 28 #[.slice A m cap] w (ListPost xs.length (xs.map (Value.int .i64)) u x w) := by
  subst hm
  refine (getInts_any A cap l w hl hcap hh).mono fun e w' hp => ?_
  rw [h] at hp
  obtain ⟨v, rfl, hown, hb⟩ := hp
  obtain ⟨A, c, rfl, hc, hh⟩ := holds_own hown
  exact ⟨A, c, rfl, hc, hh, hb⟩
theorem use_getStrings {xs : List (List UInt8)} {u : Nat} {x : Int} (h : WM.getAll WM.getB 1 l = (xs, u, x)) : Calls Try.prog 31 #[.slice A m cap] w (ListPost xs.length (xs.map strV) u x w) := by
  subst hm
  refine (getStrings_any A cap l w hl hcap hh).mono fun e w' hp => ?_
  rw [h] at hp
  obtain ⟨v, rfl, hown, hb⟩ := hp
  obtain ⟨A, c, rfl, hc, hh⟩ := holds_own hown
  exact ⟨A, c, rfl, hc, hh, hb⟩
theorem use_getDigests {xs : List (List UInt8)} {u : Nat} {x : Int} (h : WM.getAll WM.getD 16 l = (xs, u, x)) : Calls Try.prog 34 #[.slice A m cap] w (ListPost xs.length (digCells xs) u x w) := by
  subst hm
  refine (getDigests_any A cap l w hl hcap hh).mono fun e w' hp => ?_
  rw [h] at hp
  obtain ⟨v, rfl, hown, hb⟩ := hp
  obtain ⟨A, c, rfl, hc, hh⟩ := holds_own hown
  exact ⟨A, c, rfl, hc, hh, hb⟩
end

theorem holds_at (W : World) (g : Nat) (cs : Array Value) (t : TypeId) (xs : List Value) (hg : g = W.heap.size) (h : cs = xs.toArray) : Holds (W.alloc (.cells cs t)) (some ⟨g, 0, none⟩) xs := by subst hg; exact holds_new W cs t xs h
theorem Holds.alloc {w : World} {A : Option Addr} {xs : List Value} (h : Holds w A xs) (o : Obj) : Holds (w.alloc o) A xs := h.keep (Keeps.of ((Below.refl _ _).alloc (Nat.le_refl _) o))

theorem Holds.cells {w : World} {ad : Addr} {xs : List Value} (h : Holds w (some ad) xs) : ∀ j u, xs[j]? = some u → w.cell? (ad.add j) = some u := fun j u hu => by
  obtain ⟨ad', e, hc⟩ := h j u hu
  cases e
  exact hc
/-- A block, then a call: below the world that was, nothing has turned. -/
theorem below_then {w w' : World} {o : Obj} (h : Below (w.alloc o).heap.size (w.alloc o) w') : Below w.heap.size w w' := ((Below.refl _ _).alloc (Nat.le_refl _) o).trans (h.mono (by simp))
theorem below_join {a b c : World} (h : Below a.heap.size a b) (k : Below b.heap.size b c) : Below a.heap.size a c := h.trans (k.mono h.size)
theorem Holds.next {w w' : World} {A : Option Addr} {xs : List Value} (h : Holds w A xs) (hb : Below w.heap.size w w') : Holds w' A xs := h.keep (Keeps.of hb)
theorem strV_toList (xs : List (List UInt8)) : (xs.map fun s => (⟨s.toArray⟩ : ByteArray)).map Value.string = xs.map strV := by rw [List.map_map]; rfl
theorem strs_of (xs : List (List UInt8)) : strs (xs.map fun s => (⟨s.toArray⟩ : ByteArray)) = xs := by
  unfold strs; rw [List.map_map]
  conv => rhs; rw [← List.map_id xs]
  apply List.map_congr_left
  intro a _
  simp
end Go.Proofs.Ytkbmgkaopjjkoaa
