/-
  NARROWER THAN 'FOR EVERY INPUT', by the rows' own cells (each row's printed sentence says how): BitsMatchSpec: laid · BitsModsMatchSpec: laid · BitsDifferencesMatchSpec: laid · BitsSetsMatchSpec: laid · BitsRangesMatchSpec: laid · BitsTextsMatchSpec: laid · BitsDifferencesAreExact: laid · BitsSetsAreDecided: laid · BitsModsCompose: laid · BitsAlgebra: laid · BitsRangesAreExact: laid.
  DERIVED. THE GIVEN ROWS OF THIS SEAT. 11 by the template 'for every input the law returns true; each argument reads behind the call as it read before'; 0 by the template 'total and deterministic' (their statements: YtbldnhpbmfmepaaDoorTotals.lean).
  GIVEN WITH THE SEED: the statements are not yours to turn. If you find one false, say at which input.
  Laid BY PROGRAM, IN A SANDBOX (cutbox-rows.mjs): the forced cells as the released guide's own fill.sh prints them over the translation 5b1be2d7024a8429… (all of the seat's roots in one cut). By AI agents, Wed Nov 11 2026. No macro, syntax, notation, axiom, sorry.
-/
import Derived.Test.YtbldnhpbmfmepaaDoorChecked
import GoSem.PinnedTables
import GoSem.Claim
import GoSem.ClaimJoined
import GoSem.ClaimMapViews
import Derived.JoinedTies
import Derived.KernelRfl
namespace Go.Proofs.YtbldnhpbmfmepaaDoor
/- THE CELL 'sum', in the pinned program and in every row, IS THE sha256 OF THE DUMP (.gsa) THAT YtbldnhpbmfmepaaDoorProg.lean LOADS. Nothing in Lean hashes anything: it is a label: what it is worth is what the hold of that sum in a sandbox is worth. -/
noncomputable def Tryd.pinned : Pinned := { name := "ytbldnhpbmfmepaadoor", sum := "5b1be2d7024a8429668f9f4604d55f610797dea9b8ae440b0d52319fdbe6520d", checked := Tryd.checked }
namespace Rows
def none {H : Type} : Left H := { results := [], args := [] }

/- WHAT THE LISTED PACKAGE-LEVEL VARIABLES READ AS WHEN THE CALL BEGINS. Each datum BY PROGRAM (the guide's laid-datum.mjs) off the statement by which the dump's own 'gosem.cut.vars' lays the variable. In a bare row this is a premise. The card (YtbldnhpbmfmepaaDoorCards.lean) ties it to the program's text. -/
def laid_unicode_utf8_acceptRanges {H : Type} : DataW H := .agg [.agg [.lit (.int .u8 128), .lit (.int .u8 191)], .agg [.lit (.int .u8 160), .lit (.int .u8 191)], .agg [.lit (.int .u8 128), .lit (.int .u8 159)], .agg [.lit (.int .u8 144), .lit (.int .u8 191)], .agg [.lit (.int .u8 128), .lit (.int .u8 143)], .agg [.lit (.int .u8 0), .lit (.int .u8 0)], .agg [.lit (.int .u8 0), .lit (.int .u8 0)], .agg [.lit (.int .u8 0), .lit (.int .u8 0)], .agg [.lit (.int .u8 0), .lit (.int .u8 0)], .agg [.lit (.int .u8 0), .lit (.int .u8 0)], .agg [.lit (.int .u8 0), .lit (.int .u8 0)], .agg [.lit (.int .u8 0), .lit (.int .u8 0)], .agg [.lit (.int .u8 0), .lit (.int .u8 0)], .agg [.lit (.int .u8 0), .lit (.int .u8 0)], .agg [.lit (.int .u8 0), .lit (.int .u8 0)], .agg [.lit (.int .u8 0), .lit (.int .u8 0)]]
/-- One of Go's own tables, pinned by name: the form's constant. -/
def laid_unicode_utf8_first : DataW Unit := Go.Pinned.utf8First

/-- 'interlacelaw06.BitsMatchSpec': WHATEVER THE INPUT: true; the input reads as it did. -/
def bitsMatchSpecSpec : ChangeSpec := { name := "bitsMatchSpec", fn := fun _ => fun
  | [d1, d2, d3, d4, d5] => { results := [.lit (.bool true)], args := [d1, d2, d3, d4, d5] }
  | _ => none }
def bitsMatchSpecRow : OpenClaim := { program := "ytbldnhpbmfmepaadoor", sum := "5b1be2d7024a8429668f9f4604d55f610797dea9b8ae440b0d52319fdbe6520d", func := "interlace/interlacelaw06.BitsMatchSpec", spec := "bitsMatchSpec", inPlace := ["internal/bytealg.CountString", "internal/bytealg.IndexByteString", "internal/bytealg.IndexString", "internal/abi.NoEscape"], unfollowed := true, recurses := true, named := ["unicode/utf8.first", "unicode/utf8.acceptRanges", "internal/bytealg.MaxLen"], apart := false, laid := [("unicode/utf8.acceptRanges", laid_unicode_utf8_acceptRanges), ("unicode/utf8.first", laid_unicode_utf8_first)] }
def BitsMatchSpecSaid : Prop := bitsMatchSpecRow.holds Tryd.pinned (OpenSpec.ofChange bitsMatchSpecSpec)

/-- ITS FALSE NEIGHBOUR: 'it returns false'. Refute it at one input. -/
def bitsMatchSpecWrong : ChangeSpec := { name := "bitsMatchSpec", fn := fun _ => fun
  | [d1, d2, d3, d4, d5] => { results := [.lit (.bool false)], args := [d1, d2, d3, d4, d5] }
  | _ => none }
def BitsMatchSpecWrongFalsely : Prop := bitsMatchSpecRow.holds Tryd.pinned (OpenSpec.ofChange bitsMatchSpecWrong)

/-- 'interlacelaw06.BitsModsMatchSpec': WHATEVER THE INPUT: true; the input reads as it did. -/
def bitsModsMatchSpecSpec : ChangeSpec := { name := "bitsModsMatchSpec", fn := fun _ => fun
  | [d1, d2, d3, d4] => { results := [.lit (.bool true)], args := [d1, d2, d3, d4] }
  | _ => none }
def bitsModsMatchSpecRow : OpenClaim := { program := "ytbldnhpbmfmepaadoor", sum := "5b1be2d7024a8429668f9f4604d55f610797dea9b8ae440b0d52319fdbe6520d", func := "interlace/interlacelaw06.BitsModsMatchSpec", spec := "bitsModsMatchSpec", inPlace := ["internal/bytealg.CountString", "internal/bytealg.IndexByteString", "internal/bytealg.IndexString", "internal/abi.NoEscape"], unfollowed := true, recurses := true, named := ["unicode/utf8.first", "unicode/utf8.acceptRanges", "internal/bytealg.MaxLen"], apart := false, laid := [("unicode/utf8.acceptRanges", laid_unicode_utf8_acceptRanges), ("unicode/utf8.first", laid_unicode_utf8_first)] }
def BitsModsMatchSpecSaid : Prop := bitsModsMatchSpecRow.holds Tryd.pinned (OpenSpec.ofChange bitsModsMatchSpecSpec)

/-- ITS FALSE NEIGHBOUR: 'it returns false'. Refute it at one input. -/
def bitsModsMatchSpecWrong : ChangeSpec := { name := "bitsModsMatchSpec", fn := fun _ => fun
  | [d1, d2, d3, d4] => { results := [.lit (.bool false)], args := [d1, d2, d3, d4] }
  | _ => none }
def BitsModsMatchSpecWrongFalsely : Prop := bitsModsMatchSpecRow.holds Tryd.pinned (OpenSpec.ofChange bitsModsMatchSpecWrong)

/-- 'interlacelaw06.BitsDifferencesMatchSpec': WHATEVER THE INPUT: true; the input reads as it did. -/
def bitsDifferencesMatchSpecSpec : ChangeSpec := { name := "bitsDifferencesMatchSpec", fn := fun _ => fun
  | [d1, d2] => { results := [.lit (.bool true)], args := [d1, d2] }
  | _ => none }
def bitsDifferencesMatchSpecRow : OpenClaim := { program := "ytbldnhpbmfmepaadoor", sum := "5b1be2d7024a8429668f9f4604d55f610797dea9b8ae440b0d52319fdbe6520d", func := "interlace/interlacelaw06.BitsDifferencesMatchSpec", spec := "bitsDifferencesMatchSpec", inPlace := ["internal/bytealg.CountString", "internal/bytealg.IndexByteString", "internal/bytealg.IndexString", "internal/abi.NoEscape"], unfollowed := true, recurses := true, named := ["unicode/utf8.first", "unicode/utf8.acceptRanges", "internal/bytealg.MaxLen"], apart := false, laid := [("unicode/utf8.acceptRanges", laid_unicode_utf8_acceptRanges), ("unicode/utf8.first", laid_unicode_utf8_first)] }
def BitsDifferencesMatchSpecSaid : Prop := bitsDifferencesMatchSpecRow.holds Tryd.pinned (OpenSpec.ofChange bitsDifferencesMatchSpecSpec)

/-- ITS FALSE NEIGHBOUR: 'it returns false'. Refute it at one input. -/
def bitsDifferencesMatchSpecWrong : ChangeSpec := { name := "bitsDifferencesMatchSpec", fn := fun _ => fun
  | [d1, d2] => { results := [.lit (.bool false)], args := [d1, d2] }
  | _ => none }
def BitsDifferencesMatchSpecWrongFalsely : Prop := bitsDifferencesMatchSpecRow.holds Tryd.pinned (OpenSpec.ofChange bitsDifferencesMatchSpecWrong)

/-- 'interlacelaw06.BitsSetsMatchSpec': WHATEVER THE INPUT: true; the input reads as it did. -/
def bitsSetsMatchSpecSpec : ChangeSpec := { name := "bitsSetsMatchSpec", fn := fun _ => fun
  | [d1, d2] => { results := [.lit (.bool true)], args := [d1, d2] }
  | _ => none }
def bitsSetsMatchSpecRow : OpenClaim := { program := "ytbldnhpbmfmepaadoor", sum := "5b1be2d7024a8429668f9f4604d55f610797dea9b8ae440b0d52319fdbe6520d", func := "interlace/interlacelaw06.BitsSetsMatchSpec", spec := "bitsSetsMatchSpec", inPlace := ["internal/bytealg.CountString", "internal/bytealg.IndexByteString", "internal/bytealg.IndexString", "internal/abi.NoEscape"], unfollowed := true, recurses := true, named := ["unicode/utf8.first", "unicode/utf8.acceptRanges", "internal/bytealg.MaxLen"], apart := false, laid := [("unicode/utf8.acceptRanges", laid_unicode_utf8_acceptRanges), ("unicode/utf8.first", laid_unicode_utf8_first)] }
def BitsSetsMatchSpecSaid : Prop := bitsSetsMatchSpecRow.holds Tryd.pinned (OpenSpec.ofChange bitsSetsMatchSpecSpec)

/-- ITS FALSE NEIGHBOUR: 'it returns false'. Refute it at one input. -/
def bitsSetsMatchSpecWrong : ChangeSpec := { name := "bitsSetsMatchSpec", fn := fun _ => fun
  | [d1, d2] => { results := [.lit (.bool false)], args := [d1, d2] }
  | _ => none }
def BitsSetsMatchSpecWrongFalsely : Prop := bitsSetsMatchSpecRow.holds Tryd.pinned (OpenSpec.ofChange bitsSetsMatchSpecWrong)

/-- 'interlacelaw06.BitsRangesMatchSpec': WHATEVER THE INPUT: true; the input reads as it did. -/
def bitsRangesMatchSpecSpec : ChangeSpec := { name := "bitsRangesMatchSpec", fn := fun _ => fun
  | [d1, d2, d3, d4] => { results := [.lit (.bool true)], args := [d1, d2, d3, d4] }
  | _ => none }
def bitsRangesMatchSpecRow : OpenClaim := { program := "ytbldnhpbmfmepaadoor", sum := "5b1be2d7024a8429668f9f4604d55f610797dea9b8ae440b0d52319fdbe6520d", func := "interlace/interlacelaw06.BitsRangesMatchSpec", spec := "bitsRangesMatchSpec", inPlace := ["internal/bytealg.CountString", "internal/bytealg.IndexByteString", "internal/bytealg.IndexString", "internal/abi.NoEscape"], unfollowed := true, recurses := true, named := ["unicode/utf8.first", "unicode/utf8.acceptRanges", "internal/bytealg.MaxLen"], apart := false, laid := [("unicode/utf8.acceptRanges", laid_unicode_utf8_acceptRanges), ("unicode/utf8.first", laid_unicode_utf8_first)] }
def BitsRangesMatchSpecSaid : Prop := bitsRangesMatchSpecRow.holds Tryd.pinned (OpenSpec.ofChange bitsRangesMatchSpecSpec)

/-- ITS FALSE NEIGHBOUR: 'it returns false'. Refute it at one input. -/
def bitsRangesMatchSpecWrong : ChangeSpec := { name := "bitsRangesMatchSpec", fn := fun _ => fun
  | [d1, d2, d3, d4] => { results := [.lit (.bool false)], args := [d1, d2, d3, d4] }
  | _ => none }
def BitsRangesMatchSpecWrongFalsely : Prop := bitsRangesMatchSpecRow.holds Tryd.pinned (OpenSpec.ofChange bitsRangesMatchSpecWrong)

/-- 'interlacelaw06.BitsTextsMatchSpec': WHATEVER THE INPUT: true; the input reads as it did. -/
def bitsTextsMatchSpecSpec : ChangeSpec := { name := "bitsTextsMatchSpec", fn := fun _ => fun
  | [d1, d2] => { results := [.lit (.bool true)], args := [d1, d2] }
  | _ => none }
def bitsTextsMatchSpecRow : OpenClaim := { program := "ytbldnhpbmfmepaadoor", sum := "5b1be2d7024a8429668f9f4604d55f610797dea9b8ae440b0d52319fdbe6520d", func := "interlace/interlacelaw06.BitsTextsMatchSpec", spec := "bitsTextsMatchSpec", inPlace := ["internal/bytealg.CountString", "internal/bytealg.IndexByteString", "internal/bytealg.IndexString", "internal/abi.NoEscape"], unfollowed := true, recurses := true, named := ["unicode/utf8.first", "unicode/utf8.acceptRanges", "internal/bytealg.MaxLen"], apart := false, laid := [("unicode/utf8.acceptRanges", laid_unicode_utf8_acceptRanges), ("unicode/utf8.first", laid_unicode_utf8_first)] }
def BitsTextsMatchSpecSaid : Prop := bitsTextsMatchSpecRow.holds Tryd.pinned (OpenSpec.ofChange bitsTextsMatchSpecSpec)

/-- ITS FALSE NEIGHBOUR: 'it returns false'. Refute it at one input. -/
def bitsTextsMatchSpecWrong : ChangeSpec := { name := "bitsTextsMatchSpec", fn := fun _ => fun
  | [d1, d2] => { results := [.lit (.bool false)], args := [d1, d2] }
  | _ => none }
def BitsTextsMatchSpecWrongFalsely : Prop := bitsTextsMatchSpecRow.holds Tryd.pinned (OpenSpec.ofChange bitsTextsMatchSpecWrong)

/-- 'interlacelaw06.BitsDifferencesAreExact': WHATEVER THE INPUT: true; the input reads as it did. -/
def bitsDifferencesAreExactSpec : ChangeSpec := { name := "bitsDifferencesAreExact", fn := fun _ => fun
  | [d1, d2, d3] => { results := [.lit (.bool true)], args := [d1, d2, d3] }
  | _ => none }
def bitsDifferencesAreExactRow : OpenClaim := { program := "ytbldnhpbmfmepaadoor", sum := "5b1be2d7024a8429668f9f4604d55f610797dea9b8ae440b0d52319fdbe6520d", func := "interlace/interlacelaw06.BitsDifferencesAreExact", spec := "bitsDifferencesAreExact", inPlace := ["internal/bytealg.CountString", "internal/bytealg.IndexByteString", "internal/bytealg.IndexString", "internal/abi.NoEscape"], unfollowed := true, recurses := true, named := ["unicode/utf8.first", "unicode/utf8.acceptRanges", "internal/bytealg.MaxLen"], apart := false, laid := [("unicode/utf8.acceptRanges", laid_unicode_utf8_acceptRanges), ("unicode/utf8.first", laid_unicode_utf8_first)] }
def BitsDifferencesAreExactSaid : Prop := bitsDifferencesAreExactRow.holds Tryd.pinned (OpenSpec.ofChange bitsDifferencesAreExactSpec)

/-- ITS FALSE NEIGHBOUR: 'it returns false'. Refute it at one input. -/
def bitsDifferencesAreExactWrong : ChangeSpec := { name := "bitsDifferencesAreExact", fn := fun _ => fun
  | [d1, d2, d3] => { results := [.lit (.bool false)], args := [d1, d2, d3] }
  | _ => none }
def BitsDifferencesAreExactWrongFalsely : Prop := bitsDifferencesAreExactRow.holds Tryd.pinned (OpenSpec.ofChange bitsDifferencesAreExactWrong)

/-- 'interlacelaw06.BitsSetsAreDecided': WHATEVER THE INPUT: true; the input reads as it did. -/
def bitsSetsAreDecidedSpec : ChangeSpec := { name := "bitsSetsAreDecided", fn := fun _ => fun
  | [d1, d2, d3, d4] => { results := [.lit (.bool true)], args := [d1, d2, d3, d4] }
  | _ => none }
def bitsSetsAreDecidedRow : OpenClaim := { program := "ytbldnhpbmfmepaadoor", sum := "5b1be2d7024a8429668f9f4604d55f610797dea9b8ae440b0d52319fdbe6520d", func := "interlace/interlacelaw06.BitsSetsAreDecided", spec := "bitsSetsAreDecided", inPlace := ["internal/bytealg.CountString", "internal/bytealg.IndexByteString", "internal/bytealg.IndexString", "internal/abi.NoEscape"], unfollowed := true, recurses := true, named := ["unicode/utf8.first", "unicode/utf8.acceptRanges", "internal/bytealg.MaxLen"], apart := false, laid := [("unicode/utf8.acceptRanges", laid_unicode_utf8_acceptRanges), ("unicode/utf8.first", laid_unicode_utf8_first)] }
def BitsSetsAreDecidedSaid : Prop := bitsSetsAreDecidedRow.holds Tryd.pinned (OpenSpec.ofChange bitsSetsAreDecidedSpec)

/-- ITS FALSE NEIGHBOUR: 'it returns false'. Refute it at one input. -/
def bitsSetsAreDecidedWrong : ChangeSpec := { name := "bitsSetsAreDecided", fn := fun _ => fun
  | [d1, d2, d3, d4] => { results := [.lit (.bool false)], args := [d1, d2, d3, d4] }
  | _ => none }
def BitsSetsAreDecidedWrongFalsely : Prop := bitsSetsAreDecidedRow.holds Tryd.pinned (OpenSpec.ofChange bitsSetsAreDecidedWrong)

/-- 'interlacelaw06.BitsModsCompose': WHATEVER THE INPUT: true; the input reads as it did. -/
def bitsModsComposeSpec : ChangeSpec := { name := "bitsModsCompose", fn := fun _ => fun
  | [d1, d2, d3, d4] => { results := [.lit (.bool true)], args := [d1, d2, d3, d4] }
  | _ => none }
def bitsModsComposeRow : OpenClaim := { program := "ytbldnhpbmfmepaadoor", sum := "5b1be2d7024a8429668f9f4604d55f610797dea9b8ae440b0d52319fdbe6520d", func := "interlace/interlacelaw06.BitsModsCompose", spec := "bitsModsCompose", inPlace := ["internal/bytealg.CountString", "internal/bytealg.IndexByteString", "internal/bytealg.IndexString", "internal/abi.NoEscape"], unfollowed := true, recurses := true, named := ["unicode/utf8.first", "unicode/utf8.acceptRanges", "internal/bytealg.MaxLen"], apart := false, laid := [("unicode/utf8.acceptRanges", laid_unicode_utf8_acceptRanges), ("unicode/utf8.first", laid_unicode_utf8_first)] }
def BitsModsComposeSaid : Prop := bitsModsComposeRow.holds Tryd.pinned (OpenSpec.ofChange bitsModsComposeSpec)

/-- ITS FALSE NEIGHBOUR: 'it returns false'. Refute it at one input. -/
def bitsModsComposeWrong : ChangeSpec := { name := "bitsModsCompose", fn := fun _ => fun
  | [d1, d2, d3, d4] => { results := [.lit (.bool false)], args := [d1, d2, d3, d4] }
  | _ => none }
def BitsModsComposeWrongFalsely : Prop := bitsModsComposeRow.holds Tryd.pinned (OpenSpec.ofChange bitsModsComposeWrong)

/-- 'interlacelaw06.BitsAlgebra': WHATEVER THE INPUT: true; the input reads as it did. -/
def bitsAlgebraSpec : ChangeSpec := { name := "bitsAlgebra", fn := fun _ => fun
  | [d1, d2, d3, d4] => { results := [.lit (.bool true)], args := [d1, d2, d3, d4] }
  | _ => none }
def bitsAlgebraRow : OpenClaim := { program := "ytbldnhpbmfmepaadoor", sum := "5b1be2d7024a8429668f9f4604d55f610797dea9b8ae440b0d52319fdbe6520d", func := "interlace/interlacelaw06.BitsAlgebra", spec := "bitsAlgebra", inPlace := ["internal/bytealg.CountString", "internal/bytealg.IndexByteString", "internal/bytealg.IndexString", "internal/abi.NoEscape"], unfollowed := true, recurses := true, named := ["unicode/utf8.first", "unicode/utf8.acceptRanges", "internal/bytealg.MaxLen"], apart := false, laid := [("unicode/utf8.acceptRanges", laid_unicode_utf8_acceptRanges), ("unicode/utf8.first", laid_unicode_utf8_first)] }
def BitsAlgebraSaid : Prop := bitsAlgebraRow.holds Tryd.pinned (OpenSpec.ofChange bitsAlgebraSpec)

/-- ITS FALSE NEIGHBOUR: 'it returns false'. Refute it at one input. -/
def bitsAlgebraWrong : ChangeSpec := { name := "bitsAlgebra", fn := fun _ => fun
  | [d1, d2, d3, d4] => { results := [.lit (.bool false)], args := [d1, d2, d3, d4] }
  | _ => none }
def BitsAlgebraWrongFalsely : Prop := bitsAlgebraRow.holds Tryd.pinned (OpenSpec.ofChange bitsAlgebraWrong)

/-- 'interlacelaw06.BitsRangesAreExact': WHATEVER THE INPUT: true; the input reads as it did. -/
def bitsRangesAreExactSpec : ChangeSpec := { name := "bitsRangesAreExact", fn := fun _ => fun
  | [d1, d2, d3, d4, d5] => { results := [.lit (.bool true)], args := [d1, d2, d3, d4, d5] }
  | _ => none }
def bitsRangesAreExactRow : OpenClaim := { program := "ytbldnhpbmfmepaadoor", sum := "5b1be2d7024a8429668f9f4604d55f610797dea9b8ae440b0d52319fdbe6520d", func := "interlace/interlacelaw06.BitsRangesAreExact", spec := "bitsRangesAreExact", inPlace := ["internal/bytealg.CountString", "internal/bytealg.IndexByteString", "internal/bytealg.IndexString", "internal/abi.NoEscape"], unfollowed := true, recurses := true, named := ["unicode/utf8.first", "unicode/utf8.acceptRanges", "internal/bytealg.MaxLen"], apart := false, laid := [("unicode/utf8.acceptRanges", laid_unicode_utf8_acceptRanges), ("unicode/utf8.first", laid_unicode_utf8_first)] }
def BitsRangesAreExactSaid : Prop := bitsRangesAreExactRow.holds Tryd.pinned (OpenSpec.ofChange bitsRangesAreExactSpec)

/-- ITS FALSE NEIGHBOUR: 'it returns false'. Refute it at one input. -/
def bitsRangesAreExactWrong : ChangeSpec := { name := "bitsRangesAreExact", fn := fun _ => fun
  | [d1, d2, d3, d4, d5] => { results := [.lit (.bool false)], args := [d1, d2, d3, d4, d5] }
  | _ => none }
def BitsRangesAreExactWrongFalsely : Prop := bitsRangesAreExactRow.holds Tryd.pinned (OpenSpec.ofChange bitsRangesAreExactWrong)

/- THE SECOND FORM. 'bulk': how many values and letters a reading holds, each counted each time it is reached (what is shared counts as often as it is met; a slice's spare places count too). A statement '..UptoSaid' is the law's where the arguments, and the package variables that the reading takes, are together of bulk at most 1048576: NARROWER than '..Said'. Prove '..Said' where nothing that the law and all that it calls make is longer than what came in: it says more and counts as full. Else prove '..UptoSaid'. A law counts once. -/
mutual
def uptoBulk {H : Type} : DataW H → Nat
  | .lit (.string bytes) => bytes.length + 1
  | .lit _ => 1
  | .nil => 1
  | .ptr d => uptoBulk d + 1
  | .slice elems spare => uptoBulkAll elems + uptoBulkAll spare + 1
  | .agg parts => uptoBulkAll parts + 1
  | .iface _ d => uptoBulk d + 1
  | .map entries => uptoBulkEntries entries + 1
  | .held _ => 1
def uptoBulkAll {H : Type} : List (DataW H) → Nat
  | [] => 0
  | d :: r => uptoBulk d + uptoBulkAll r
def uptoBulkEntries {H : Type} : List (Lit × DataW H) → Nat
  | [] => 0
  | x :: r => uptoBulkEntry x + uptoBulkEntries r
def uptoBulkEntry {H : Type} : Lit × DataW H → Nat
  | (.string bytes, d) => bytes.length + uptoBulk d + 1
  | (_, d) => uptoBulk d + 1
 end
def uptoSmall : (H : Type) → List (DataW H) → Bool := fun _ ds => decide (uptoBulkAll ds ≤ 1048576)
def OpenSpec.upto (s : _root_.Go.ChangeSpec) : _root_.Go.OpenSpec := { _root_.Go.OpenSpec.ofChange s with cond := some uptoSmall }

/-- 'interlacelaw06.BitsMatchSpec', WHERE WHAT IT READS IS OF BULK AT MOST 1048576: true; the input reads as it did. -/
def bitsMatchSpecUptoRow : OpenClaim := { program := "ytbldnhpbmfmepaadoor", sum := "5b1be2d7024a8429668f9f4604d55f610797dea9b8ae440b0d52319fdbe6520d", func := "interlace/interlacelaw06.BitsMatchSpec", spec := "bitsMatchSpec", inPlace := ["internal/bytealg.CountString", "internal/bytealg.IndexByteString", "internal/bytealg.IndexString", "internal/abi.NoEscape"], unfollowed := true, recurses := true, named := ["unicode/utf8.first", "unicode/utf8.acceptRanges", "internal/bytealg.MaxLen"], apart := false, laid := [("unicode/utf8.acceptRanges", laid_unicode_utf8_acceptRanges), ("unicode/utf8.first", laid_unicode_utf8_first)], narrowed := true }
def BitsMatchSpecUptoSaid : Prop := bitsMatchSpecUptoRow.holds Tryd.pinned (OpenSpec.upto bitsMatchSpecSpec)

/-- 'interlacelaw06.BitsModsMatchSpec', WHERE WHAT IT READS IS OF BULK AT MOST 1048576: true; the input reads as it did. -/
def bitsModsMatchSpecUptoRow : OpenClaim := { program := "ytbldnhpbmfmepaadoor", sum := "5b1be2d7024a8429668f9f4604d55f610797dea9b8ae440b0d52319fdbe6520d", func := "interlace/interlacelaw06.BitsModsMatchSpec", spec := "bitsModsMatchSpec", inPlace := ["internal/bytealg.CountString", "internal/bytealg.IndexByteString", "internal/bytealg.IndexString", "internal/abi.NoEscape"], unfollowed := true, recurses := true, named := ["unicode/utf8.first", "unicode/utf8.acceptRanges", "internal/bytealg.MaxLen"], apart := false, laid := [("unicode/utf8.acceptRanges", laid_unicode_utf8_acceptRanges), ("unicode/utf8.first", laid_unicode_utf8_first)], narrowed := true }
def BitsModsMatchSpecUptoSaid : Prop := bitsModsMatchSpecUptoRow.holds Tryd.pinned (OpenSpec.upto bitsModsMatchSpecSpec)

/-- 'interlacelaw06.BitsDifferencesMatchSpec', WHERE WHAT IT READS IS OF BULK AT MOST 1048576: true; the input reads as it did. -/
def bitsDifferencesMatchSpecUptoRow : OpenClaim := { program := "ytbldnhpbmfmepaadoor", sum := "5b1be2d7024a8429668f9f4604d55f610797dea9b8ae440b0d52319fdbe6520d", func := "interlace/interlacelaw06.BitsDifferencesMatchSpec", spec := "bitsDifferencesMatchSpec", inPlace := ["internal/bytealg.CountString", "internal/bytealg.IndexByteString", "internal/bytealg.IndexString", "internal/abi.NoEscape"], unfollowed := true, recurses := true, named := ["unicode/utf8.first", "unicode/utf8.acceptRanges", "internal/bytealg.MaxLen"], apart := false, laid := [("unicode/utf8.acceptRanges", laid_unicode_utf8_acceptRanges), ("unicode/utf8.first", laid_unicode_utf8_first)], narrowed := true }
def BitsDifferencesMatchSpecUptoSaid : Prop := bitsDifferencesMatchSpecUptoRow.holds Tryd.pinned (OpenSpec.upto bitsDifferencesMatchSpecSpec)

/-- 'interlacelaw06.BitsSetsMatchSpec', WHERE WHAT IT READS IS OF BULK AT MOST 1048576: true; the input reads as it did. -/
def bitsSetsMatchSpecUptoRow : OpenClaim := { program := "ytbldnhpbmfmepaadoor", sum := "5b1be2d7024a8429668f9f4604d55f610797dea9b8ae440b0d52319fdbe6520d", func := "interlace/interlacelaw06.BitsSetsMatchSpec", spec := "bitsSetsMatchSpec", inPlace := ["internal/bytealg.CountString", "internal/bytealg.IndexByteString", "internal/bytealg.IndexString", "internal/abi.NoEscape"], unfollowed := true, recurses := true, named := ["unicode/utf8.first", "unicode/utf8.acceptRanges", "internal/bytealg.MaxLen"], apart := false, laid := [("unicode/utf8.acceptRanges", laid_unicode_utf8_acceptRanges), ("unicode/utf8.first", laid_unicode_utf8_first)], narrowed := true }
def BitsSetsMatchSpecUptoSaid : Prop := bitsSetsMatchSpecUptoRow.holds Tryd.pinned (OpenSpec.upto bitsSetsMatchSpecSpec)

/-- 'interlacelaw06.BitsRangesMatchSpec', WHERE WHAT IT READS IS OF BULK AT MOST 1048576: true; the input reads as it did. -/
def bitsRangesMatchSpecUptoRow : OpenClaim := { program := "ytbldnhpbmfmepaadoor", sum := "5b1be2d7024a8429668f9f4604d55f610797dea9b8ae440b0d52319fdbe6520d", func := "interlace/interlacelaw06.BitsRangesMatchSpec", spec := "bitsRangesMatchSpec", inPlace := ["internal/bytealg.CountString", "internal/bytealg.IndexByteString", "internal/bytealg.IndexString", "internal/abi.NoEscape"], unfollowed := true, recurses := true, named := ["unicode/utf8.first", "unicode/utf8.acceptRanges", "internal/bytealg.MaxLen"], apart := false, laid := [("unicode/utf8.acceptRanges", laid_unicode_utf8_acceptRanges), ("unicode/utf8.first", laid_unicode_utf8_first)], narrowed := true }
def BitsRangesMatchSpecUptoSaid : Prop := bitsRangesMatchSpecUptoRow.holds Tryd.pinned (OpenSpec.upto bitsRangesMatchSpecSpec)

/-- 'interlacelaw06.BitsTextsMatchSpec', WHERE WHAT IT READS IS OF BULK AT MOST 1048576: true; the input reads as it did. -/
def bitsTextsMatchSpecUptoRow : OpenClaim := { program := "ytbldnhpbmfmepaadoor", sum := "5b1be2d7024a8429668f9f4604d55f610797dea9b8ae440b0d52319fdbe6520d", func := "interlace/interlacelaw06.BitsTextsMatchSpec", spec := "bitsTextsMatchSpec", inPlace := ["internal/bytealg.CountString", "internal/bytealg.IndexByteString", "internal/bytealg.IndexString", "internal/abi.NoEscape"], unfollowed := true, recurses := true, named := ["unicode/utf8.first", "unicode/utf8.acceptRanges", "internal/bytealg.MaxLen"], apart := false, laid := [("unicode/utf8.acceptRanges", laid_unicode_utf8_acceptRanges), ("unicode/utf8.first", laid_unicode_utf8_first)], narrowed := true }
def BitsTextsMatchSpecUptoSaid : Prop := bitsTextsMatchSpecUptoRow.holds Tryd.pinned (OpenSpec.upto bitsTextsMatchSpecSpec)

/-- 'interlacelaw06.BitsDifferencesAreExact', WHERE WHAT IT READS IS OF BULK AT MOST 1048576: true; the input reads as it did. -/
def bitsDifferencesAreExactUptoRow : OpenClaim := { program := "ytbldnhpbmfmepaadoor", sum := "5b1be2d7024a8429668f9f4604d55f610797dea9b8ae440b0d52319fdbe6520d", func := "interlace/interlacelaw06.BitsDifferencesAreExact", spec := "bitsDifferencesAreExact", inPlace := ["internal/bytealg.CountString", "internal/bytealg.IndexByteString", "internal/bytealg.IndexString", "internal/abi.NoEscape"], unfollowed := true, recurses := true, named := ["unicode/utf8.first", "unicode/utf8.acceptRanges", "internal/bytealg.MaxLen"], apart := false, laid := [("unicode/utf8.acceptRanges", laid_unicode_utf8_acceptRanges), ("unicode/utf8.first", laid_unicode_utf8_first)], narrowed := true }
def BitsDifferencesAreExactUptoSaid : Prop := bitsDifferencesAreExactUptoRow.holds Tryd.pinned (OpenSpec.upto bitsDifferencesAreExactSpec)

/-- 'interlacelaw06.BitsSetsAreDecided', WHERE WHAT IT READS IS OF BULK AT MOST 1048576: true; the input reads as it did. -/
def bitsSetsAreDecidedUptoRow : OpenClaim := { program := "ytbldnhpbmfmepaadoor", sum := "5b1be2d7024a8429668f9f4604d55f610797dea9b8ae440b0d52319fdbe6520d", func := "interlace/interlacelaw06.BitsSetsAreDecided", spec := "bitsSetsAreDecided", inPlace := ["internal/bytealg.CountString", "internal/bytealg.IndexByteString", "internal/bytealg.IndexString", "internal/abi.NoEscape"], unfollowed := true, recurses := true, named := ["unicode/utf8.first", "unicode/utf8.acceptRanges", "internal/bytealg.MaxLen"], apart := false, laid := [("unicode/utf8.acceptRanges", laid_unicode_utf8_acceptRanges), ("unicode/utf8.first", laid_unicode_utf8_first)], narrowed := true }
def BitsSetsAreDecidedUptoSaid : Prop := bitsSetsAreDecidedUptoRow.holds Tryd.pinned (OpenSpec.upto bitsSetsAreDecidedSpec)

/-- 'interlacelaw06.BitsModsCompose', WHERE WHAT IT READS IS OF BULK AT MOST 1048576: true; the input reads as it did. -/
def bitsModsComposeUptoRow : OpenClaim := { program := "ytbldnhpbmfmepaadoor", sum := "5b1be2d7024a8429668f9f4604d55f610797dea9b8ae440b0d52319fdbe6520d", func := "interlace/interlacelaw06.BitsModsCompose", spec := "bitsModsCompose", inPlace := ["internal/bytealg.CountString", "internal/bytealg.IndexByteString", "internal/bytealg.IndexString", "internal/abi.NoEscape"], unfollowed := true, recurses := true, named := ["unicode/utf8.first", "unicode/utf8.acceptRanges", "internal/bytealg.MaxLen"], apart := false, laid := [("unicode/utf8.acceptRanges", laid_unicode_utf8_acceptRanges), ("unicode/utf8.first", laid_unicode_utf8_first)], narrowed := true }
def BitsModsComposeUptoSaid : Prop := bitsModsComposeUptoRow.holds Tryd.pinned (OpenSpec.upto bitsModsComposeSpec)

/-- 'interlacelaw06.BitsAlgebra', WHERE WHAT IT READS IS OF BULK AT MOST 1048576: true; the input reads as it did. -/
def bitsAlgebraUptoRow : OpenClaim := { program := "ytbldnhpbmfmepaadoor", sum := "5b1be2d7024a8429668f9f4604d55f610797dea9b8ae440b0d52319fdbe6520d", func := "interlace/interlacelaw06.BitsAlgebra", spec := "bitsAlgebra", inPlace := ["internal/bytealg.CountString", "internal/bytealg.IndexByteString", "internal/bytealg.IndexString", "internal/abi.NoEscape"], unfollowed := true, recurses := true, named := ["unicode/utf8.first", "unicode/utf8.acceptRanges", "internal/bytealg.MaxLen"], apart := false, laid := [("unicode/utf8.acceptRanges", laid_unicode_utf8_acceptRanges), ("unicode/utf8.first", laid_unicode_utf8_first)], narrowed := true }
def BitsAlgebraUptoSaid : Prop := bitsAlgebraUptoRow.holds Tryd.pinned (OpenSpec.upto bitsAlgebraSpec)

/-- 'interlacelaw06.BitsRangesAreExact', WHERE WHAT IT READS IS OF BULK AT MOST 1048576: true; the input reads as it did. -/
def bitsRangesAreExactUptoRow : OpenClaim := { program := "ytbldnhpbmfmepaadoor", sum := "5b1be2d7024a8429668f9f4604d55f610797dea9b8ae440b0d52319fdbe6520d", func := "interlace/interlacelaw06.BitsRangesAreExact", spec := "bitsRangesAreExact", inPlace := ["internal/bytealg.CountString", "internal/bytealg.IndexByteString", "internal/bytealg.IndexString", "internal/abi.NoEscape"], unfollowed := true, recurses := true, named := ["unicode/utf8.first", "unicode/utf8.acceptRanges", "internal/bytealg.MaxLen"], apart := false, laid := [("unicode/utf8.acceptRanges", laid_unicode_utf8_acceptRanges), ("unicode/utf8.first", laid_unicode_utf8_first)], narrowed := true }
def BitsRangesAreExactUptoSaid : Prop := bitsRangesAreExactUptoRow.holds Tryd.pinned (OpenSpec.upto bitsRangesAreExactSpec)

end Rows
end Go.Proofs.YtbldnhpbmfmepaaDoor
