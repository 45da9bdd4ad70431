/-
  Contracts of the functions that the statement calls, part 13 of 25 (merged texts: Shelfb). Conditions: as the head of each part says.
-/
import Derived.Shelf.Small.Strs
import Derived.Shelf.Small.Bits
import Derived.Ground.NamesProg
import Derived.Test.YtkkgfdfjgfigcaaDoorProg

/-
  DERIVED: THE SHELF's CONTRACTS AT THIS DUMP, IN PLAIN WORDS (tools/lay-plain.mjs out of 'YtkkgfdfjgfigcaaDoorShelfb0.lean', which tools/lay-shelf.mjs wrote): THE SAME DECLARATIONS UNDER THE SAME NAMES: 'import', 'namespace', 'open', 'def', 'theorem' AND NOTHING ELSE: no command of the shelf's: FOR A HAND-IN. Each laying: the table of numbers ('.._ren') and one theorem, a field a fact of the dump's own or the kernel's comparison; each contract: ONE APPLICATION.
-/
namespace Go.Proofs
open Go.Shelf
def Tryd.indexA_ren : Go.Shelf.Ren := ⟨fun | 137 => 184 | 217 => 220 | 266 => 245 | n => n, fun | 9 => 9 | 5 => 5 | 3 => 3 | n => n, fun | n => n⟩
theorem Tryd.indexA : Go.Proofs.Lays.n137 Tryd.prog Tryd.indexA_ren := {
  mixed := by kernel_rfl
  f137 := Tryd.func184.trans (congrArg some (by kernel_rfl))
  f217 := Tryd.func220.trans (congrArg some (by kernel_rfl))
  f266 := Tryd.func245.trans (congrArg some (by kernel_rfl))
  t3 := Tryd.underlying3
  a3 := Tryd.isAgg3
  z3 := Tryd.sizeOf3
  v3 := Tryd.zeroValue3
  t5 := Tryd.underlying5
  a5 := Tryd.isAgg5
  z5 := Tryd.sizeOf5
  v5 := Tryd.zeroValue5
  t9 := Tryd.underlying9
  a9 := Tryd.isAgg9
  z9 := Tryd.sizeOf9
  v9 := Tryd.zeroValue9 }
def Tryd.len16A_ren : Go.Shelf.Ren := ⟨fun | 127 => 256 | n => n, fun | 49 => 184 | 3 => 3 | 4 => 4 | 46 => 162 | 5 => 5 | 9 => 9 | n => n, fun | n => n⟩
theorem Tryd.len16A : Go.Proofs.Lays.n127 Tryd.prog Tryd.len16A_ren := {
  mixed := by kernel_rfl
  f127 := Tryd.func256.trans (congrArg some (by kernel_rfl))
  t3 := Tryd.underlying3
  a3 := Tryd.isAgg3
  z3 := Tryd.sizeOf3
  v3 := Tryd.zeroValue3
  t4 := Tryd.underlying4
  a4 := Tryd.isAgg4
  z4 := Tryd.sizeOf4
  v4 := Tryd.zeroValue4
  t5 := Tryd.underlying5
  a5 := Tryd.isAgg5
  z5 := Tryd.sizeOf5
  v5 := Tryd.zeroValue5
  t9 := Tryd.underlying9
  a9 := Tryd.isAgg9
  z9 := Tryd.sizeOf9
  v9 := Tryd.zeroValue9
  t46 := Tryd.underlying162
  a46 := Tryd.isAgg162
  z46 := Tryd.sizeOf162
  v46 := Tryd.zeroValue162
  t49 := Tryd.underlying184
  a49 := Tryd.isAgg184
  z49 := Tryd.sizeOf184
  v49 := Tryd.zeroValue184 }
def Tryd.lz16A_ren : Go.Shelf.Ren := ⟨fun | 132 => 239 | 127 => 256 | n => n, fun | 49 => 184 | 3 => 3 | 4 => 4 | 46 => 162 | 5 => 5 | 9 => 9 | n => n, fun | n => n⟩
theorem Tryd.lz16A : Go.Proofs.Lays.n132 Tryd.prog Tryd.lz16A_ren := {
  mixed := by kernel_rfl
  f127 := Tryd.func256.trans (congrArg some (by kernel_rfl))
  f132 := Tryd.func239.trans (congrArg some (by kernel_rfl))
  t3 := Tryd.underlying3
  a3 := Tryd.isAgg3
  z3 := Tryd.sizeOf3
  v3 := Tryd.zeroValue3
  t4 := Tryd.underlying4
  a4 := Tryd.isAgg4
  z4 := Tryd.sizeOf4
  v4 := Tryd.zeroValue4
  t5 := Tryd.underlying5
  a5 := Tryd.isAgg5
  z5 := Tryd.sizeOf5
  v5 := Tryd.zeroValue5
  t9 := Tryd.underlying9
  a9 := Tryd.isAgg9
  z9 := Tryd.sizeOf9
  v9 := Tryd.zeroValue9
  t46 := Tryd.underlying162
  a46 := Tryd.isAgg162
  z46 := Tryd.sizeOf162
  v46 := Tryd.zeroValue162
  t49 := Tryd.underlying184
  a49 := Tryd.isAgg184
  z49 := Tryd.sizeOf184
  v49 := Tryd.zeroValue184 }
end Go.Proofs
