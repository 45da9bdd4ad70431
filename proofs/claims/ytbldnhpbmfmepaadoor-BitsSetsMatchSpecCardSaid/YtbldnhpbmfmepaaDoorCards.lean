/-
  DERIVED. GIVEN WITH THE SEED: THE CARDS: each row of YtbldnhpbmfmepaaDoorRows.lean that lists a variable, with what it lists TIED to the program's text (the seventh form; the later family's looks); each row that meets fmt, with fmt's text TOLD by the authors' own Lean function (tested against real Go, not proved from fmt's source: count such statements apart). THE CARD IS WHAT COUNTS. Prove the row's statement (the work); the ties are given (YtbldnhpbmfmepaaDoorTie.lean); close each card by the builder's one call (the guide's Derived/Test/ToyasCard.lean, 'card_holds'). Laid BY PROGRAM, IN A SANDBOX (cutbox-door.mjs). By AI agents, Wed Nov 11 2026. No macro, syntax, notation, axiom, sorry.
-/
import Derived.Test.YtbldnhpbmfmepaaDoorRows
import GoSem.ClaimSeven
namespace Go.Proofs.YtbldnhpbmfmepaaDoor
namespace Rows

/-- THE TIED CARD OF 'interlacelaw06.BitsMatchSpec'. -/
def bitsMatchSpecCard : Claim7 := { stood := { row := bitsMatchSpecRow, standIns := [], harness := (true, "a4e401a207f0a7e6cfb9fbec2027a4dff58578fef23c9da6bcf77bcebc583812"), looks := false }, kinds := [], alts := [], laidByText := true, laidKinds := [.data, .pinned], laidTests := true, laidLooks := .later }
def BitsMatchSpecCardSaid : Prop := Claim7.holds Tryd.pinned (.plain (OpenSpec.ofChange bitsMatchSpecSpec)) bitsMatchSpecCard

/-- THE TIED CARD OF 'interlacelaw06.BitsModsMatchSpec'. -/
def bitsModsMatchSpecCard : Claim7 := { stood := { row := bitsModsMatchSpecRow, standIns := [], harness := (true, "a4e401a207f0a7e6cfb9fbec2027a4dff58578fef23c9da6bcf77bcebc583812"), looks := false }, kinds := [], alts := [], laidByText := true, laidKinds := [.data, .pinned], laidTests := true, laidLooks := .later }
def BitsModsMatchSpecCardSaid : Prop := Claim7.holds Tryd.pinned (.plain (OpenSpec.ofChange bitsModsMatchSpecSpec)) bitsModsMatchSpecCard

/-- THE TIED CARD OF 'interlacelaw06.BitsDifferencesMatchSpec'. -/
def bitsDifferencesMatchSpecCard : Claim7 := { stood := { row := bitsDifferencesMatchSpecRow, standIns := [], harness := (true, "a4e401a207f0a7e6cfb9fbec2027a4dff58578fef23c9da6bcf77bcebc583812"), looks := false }, kinds := [], alts := [], laidByText := true, laidKinds := [.data, .pinned], laidTests := true, laidLooks := .later }
def BitsDifferencesMatchSpecCardSaid : Prop := Claim7.holds Tryd.pinned (.plain (OpenSpec.ofChange bitsDifferencesMatchSpecSpec)) bitsDifferencesMatchSpecCard

/-- THE TIED CARD OF 'interlacelaw06.BitsSetsMatchSpec'. -/
def bitsSetsMatchSpecCard : Claim7 := { stood := { row := bitsSetsMatchSpecRow, standIns := [], harness := (true, "a4e401a207f0a7e6cfb9fbec2027a4dff58578fef23c9da6bcf77bcebc583812"), looks := false }, kinds := [], alts := [], laidByText := true, laidKinds := [.data, .pinned], laidTests := true, laidLooks := .later }
def BitsSetsMatchSpecCardSaid : Prop := Claim7.holds Tryd.pinned (.plain (OpenSpec.ofChange bitsSetsMatchSpecSpec)) bitsSetsMatchSpecCard

/-- THE TIED CARD OF 'interlacelaw06.BitsRangesMatchSpec'. -/
def bitsRangesMatchSpecCard : Claim7 := { stood := { row := bitsRangesMatchSpecRow, standIns := [], harness := (true, "a4e401a207f0a7e6cfb9fbec2027a4dff58578fef23c9da6bcf77bcebc583812"), looks := false }, kinds := [], alts := [], laidByText := true, laidKinds := [.data, .pinned], laidTests := true, laidLooks := .later }
def BitsRangesMatchSpecCardSaid : Prop := Claim7.holds Tryd.pinned (.plain (OpenSpec.ofChange bitsRangesMatchSpecSpec)) bitsRangesMatchSpecCard

/-- THE TIED CARD OF 'interlacelaw06.BitsTextsMatchSpec'. -/
def bitsTextsMatchSpecCard : Claim7 := { stood := { row := bitsTextsMatchSpecRow, standIns := [], harness := (true, "a4e401a207f0a7e6cfb9fbec2027a4dff58578fef23c9da6bcf77bcebc583812"), looks := false }, kinds := [], alts := [], laidByText := true, laidKinds := [.data, .pinned], laidTests := true, laidLooks := .later }
def BitsTextsMatchSpecCardSaid : Prop := Claim7.holds Tryd.pinned (.plain (OpenSpec.ofChange bitsTextsMatchSpecSpec)) bitsTextsMatchSpecCard

/-- THE TIED CARD OF 'interlacelaw06.BitsDifferencesAreExact'. -/
def bitsDifferencesAreExactCard : Claim7 := { stood := { row := bitsDifferencesAreExactRow, standIns := [], harness := (true, "a4e401a207f0a7e6cfb9fbec2027a4dff58578fef23c9da6bcf77bcebc583812"), looks := false }, kinds := [], alts := [], laidByText := true, laidKinds := [.data, .pinned], laidTests := true, laidLooks := .later }
def BitsDifferencesAreExactCardSaid : Prop := Claim7.holds Tryd.pinned (.plain (OpenSpec.ofChange bitsDifferencesAreExactSpec)) bitsDifferencesAreExactCard

/-- THE TIED CARD OF 'interlacelaw06.BitsSetsAreDecided'. -/
def bitsSetsAreDecidedCard : Claim7 := { stood := { row := bitsSetsAreDecidedRow, standIns := [], harness := (true, "a4e401a207f0a7e6cfb9fbec2027a4dff58578fef23c9da6bcf77bcebc583812"), looks := false }, kinds := [], alts := [], laidByText := true, laidKinds := [.data, .pinned], laidTests := true, laidLooks := .later }
def BitsSetsAreDecidedCardSaid : Prop := Claim7.holds Tryd.pinned (.plain (OpenSpec.ofChange bitsSetsAreDecidedSpec)) bitsSetsAreDecidedCard

/-- THE TIED CARD OF 'interlacelaw06.BitsModsCompose'. -/
def bitsModsComposeCard : Claim7 := { stood := { row := bitsModsComposeRow, standIns := [], harness := (true, "a4e401a207f0a7e6cfb9fbec2027a4dff58578fef23c9da6bcf77bcebc583812"), looks := false }, kinds := [], alts := [], laidByText := true, laidKinds := [.data, .pinned], laidTests := true, laidLooks := .later }
def BitsModsComposeCardSaid : Prop := Claim7.holds Tryd.pinned (.plain (OpenSpec.ofChange bitsModsComposeSpec)) bitsModsComposeCard

/-- THE TIED CARD OF 'interlacelaw06.BitsAlgebra'. -/
def bitsAlgebraCard : Claim7 := { stood := { row := bitsAlgebraRow, standIns := [], harness := (true, "a4e401a207f0a7e6cfb9fbec2027a4dff58578fef23c9da6bcf77bcebc583812"), looks := false }, kinds := [], alts := [], laidByText := true, laidKinds := [.data, .pinned], laidTests := true, laidLooks := .later }
def BitsAlgebraCardSaid : Prop := Claim7.holds Tryd.pinned (.plain (OpenSpec.ofChange bitsAlgebraSpec)) bitsAlgebraCard

/-- THE TIED CARD OF 'interlacelaw06.BitsRangesAreExact'. -/
def bitsRangesAreExactCard : Claim7 := { stood := { row := bitsRangesAreExactRow, standIns := [], harness := (true, "a4e401a207f0a7e6cfb9fbec2027a4dff58578fef23c9da6bcf77bcebc583812"), looks := false }, kinds := [], alts := [], laidByText := true, laidKinds := [.data, .pinned], laidTests := true, laidLooks := .later }
def BitsRangesAreExactCardSaid : Prop := Claim7.holds Tryd.pinned (.plain (OpenSpec.ofChange bitsRangesAreExactSpec)) bitsRangesAreExactCard

/-- THE SECOND FORM's CARD OF 'interlacelaw06.BitsMatchSpec'. -/
def bitsMatchSpecUptoCard : Claim7 := { stood := { row := bitsMatchSpecUptoRow, standIns := [], harness := (true, "a4e401a207f0a7e6cfb9fbec2027a4dff58578fef23c9da6bcf77bcebc583812"), looks := false }, kinds := [], alts := [], laidByText := true, laidKinds := [.data, .pinned], laidTests := true, laidLooks := .later }
def BitsMatchSpecUptoCardSaid : Prop := Claim7.holds Tryd.pinned (.plain (OpenSpec.upto bitsMatchSpecSpec)) bitsMatchSpecUptoCard

/-- THE SECOND FORM's CARD OF 'interlacelaw06.BitsModsMatchSpec'. -/
def bitsModsMatchSpecUptoCard : Claim7 := { stood := { row := bitsModsMatchSpecUptoRow, standIns := [], harness := (true, "a4e401a207f0a7e6cfb9fbec2027a4dff58578fef23c9da6bcf77bcebc583812"), looks := false }, kinds := [], alts := [], laidByText := true, laidKinds := [.data, .pinned], laidTests := true, laidLooks := .later }
def BitsModsMatchSpecUptoCardSaid : Prop := Claim7.holds Tryd.pinned (.plain (OpenSpec.upto bitsModsMatchSpecSpec)) bitsModsMatchSpecUptoCard

/-- THE SECOND FORM's CARD OF 'interlacelaw06.BitsDifferencesMatchSpec'. -/
def bitsDifferencesMatchSpecUptoCard : Claim7 := { stood := { row := bitsDifferencesMatchSpecUptoRow, standIns := [], harness := (true, "a4e401a207f0a7e6cfb9fbec2027a4dff58578fef23c9da6bcf77bcebc583812"), looks := false }, kinds := [], alts := [], laidByText := true, laidKinds := [.data, .pinned], laidTests := true, laidLooks := .later }
def BitsDifferencesMatchSpecUptoCardSaid : Prop := Claim7.holds Tryd.pinned (.plain (OpenSpec.upto bitsDifferencesMatchSpecSpec)) bitsDifferencesMatchSpecUptoCard

/-- THE SECOND FORM's CARD OF 'interlacelaw06.BitsSetsMatchSpec'. -/
def bitsSetsMatchSpecUptoCard : Claim7 := { stood := { row := bitsSetsMatchSpecUptoRow, standIns := [], harness := (true, "a4e401a207f0a7e6cfb9fbec2027a4dff58578fef23c9da6bcf77bcebc583812"), looks := false }, kinds := [], alts := [], laidByText := true, laidKinds := [.data, .pinned], laidTests := true, laidLooks := .later }
def BitsSetsMatchSpecUptoCardSaid : Prop := Claim7.holds Tryd.pinned (.plain (OpenSpec.upto bitsSetsMatchSpecSpec)) bitsSetsMatchSpecUptoCard

/-- THE SECOND FORM's CARD OF 'interlacelaw06.BitsRangesMatchSpec'. -/
def bitsRangesMatchSpecUptoCard : Claim7 := { stood := { row := bitsRangesMatchSpecUptoRow, standIns := [], harness := (true, "a4e401a207f0a7e6cfb9fbec2027a4dff58578fef23c9da6bcf77bcebc583812"), looks := false }, kinds := [], alts := [], laidByText := true, laidKinds := [.data, .pinned], laidTests := true, laidLooks := .later }
def BitsRangesMatchSpecUptoCardSaid : Prop := Claim7.holds Tryd.pinned (.plain (OpenSpec.upto bitsRangesMatchSpecSpec)) bitsRangesMatchSpecUptoCard

/-- THE SECOND FORM's CARD OF 'interlacelaw06.BitsTextsMatchSpec'. -/
def bitsTextsMatchSpecUptoCard : Claim7 := { stood := { row := bitsTextsMatchSpecUptoRow, standIns := [], harness := (true, "a4e401a207f0a7e6cfb9fbec2027a4dff58578fef23c9da6bcf77bcebc583812"), looks := false }, kinds := [], alts := [], laidByText := true, laidKinds := [.data, .pinned], laidTests := true, laidLooks := .later }
def BitsTextsMatchSpecUptoCardSaid : Prop := Claim7.holds Tryd.pinned (.plain (OpenSpec.upto bitsTextsMatchSpecSpec)) bitsTextsMatchSpecUptoCard

/-- THE SECOND FORM's CARD OF 'interlacelaw06.BitsDifferencesAreExact'. -/
def bitsDifferencesAreExactUptoCard : Claim7 := { stood := { row := bitsDifferencesAreExactUptoRow, standIns := [], harness := (true, "a4e401a207f0a7e6cfb9fbec2027a4dff58578fef23c9da6bcf77bcebc583812"), looks := false }, kinds := [], alts := [], laidByText := true, laidKinds := [.data, .pinned], laidTests := true, laidLooks := .later }
def BitsDifferencesAreExactUptoCardSaid : Prop := Claim7.holds Tryd.pinned (.plain (OpenSpec.upto bitsDifferencesAreExactSpec)) bitsDifferencesAreExactUptoCard

/-- THE SECOND FORM's CARD OF 'interlacelaw06.BitsSetsAreDecided'. -/
def bitsSetsAreDecidedUptoCard : Claim7 := { stood := { row := bitsSetsAreDecidedUptoRow, standIns := [], harness := (true, "a4e401a207f0a7e6cfb9fbec2027a4dff58578fef23c9da6bcf77bcebc583812"), looks := false }, kinds := [], alts := [], laidByText := true, laidKinds := [.data, .pinned], laidTests := true, laidLooks := .later }
def BitsSetsAreDecidedUptoCardSaid : Prop := Claim7.holds Tryd.pinned (.plain (OpenSpec.upto bitsSetsAreDecidedSpec)) bitsSetsAreDecidedUptoCard

/-- THE SECOND FORM's CARD OF 'interlacelaw06.BitsModsCompose'. -/
def bitsModsComposeUptoCard : Claim7 := { stood := { row := bitsModsComposeUptoRow, standIns := [], harness := (true, "a4e401a207f0a7e6cfb9fbec2027a4dff58578fef23c9da6bcf77bcebc583812"), looks := false }, kinds := [], alts := [], laidByText := true, laidKinds := [.data, .pinned], laidTests := true, laidLooks := .later }
def BitsModsComposeUptoCardSaid : Prop := Claim7.holds Tryd.pinned (.plain (OpenSpec.upto bitsModsComposeSpec)) bitsModsComposeUptoCard

/-- THE SECOND FORM's CARD OF 'interlacelaw06.BitsAlgebra'. -/
def bitsAlgebraUptoCard : Claim7 := { stood := { row := bitsAlgebraUptoRow, standIns := [], harness := (true, "a4e401a207f0a7e6cfb9fbec2027a4dff58578fef23c9da6bcf77bcebc583812"), looks := false }, kinds := [], alts := [], laidByText := true, laidKinds := [.data, .pinned], laidTests := true, laidLooks := .later }
def BitsAlgebraUptoCardSaid : Prop := Claim7.holds Tryd.pinned (.plain (OpenSpec.upto bitsAlgebraSpec)) bitsAlgebraUptoCard

/-- THE SECOND FORM's CARD OF 'interlacelaw06.BitsRangesAreExact'. -/
def bitsRangesAreExactUptoCard : Claim7 := { stood := { row := bitsRangesAreExactUptoRow, standIns := [], harness := (true, "a4e401a207f0a7e6cfb9fbec2027a4dff58578fef23c9da6bcf77bcebc583812"), looks := false }, kinds := [], alts := [], laidByText := true, laidKinds := [.data, .pinned], laidTests := true, laidLooks := .later }
def BitsRangesAreExactUptoCardSaid : Prop := Claim7.holds Tryd.pinned (.plain (OpenSpec.upto bitsRangesAreExactSpec)) bitsRangesAreExactUptoCard
end Rows
end Go.Proofs.YtbldnhpbmfmepaaDoor
