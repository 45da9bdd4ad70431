/-
  DERIVED. GIVEN WITH THE SEED: THE CARDS: each row of YtbgndopgllnmaaaDoorRows.lean that lists a variable, with what it lists TIED to the program's text (the seventh form; the later family's looks); each row that meets fmt, with fmt's text TOLD by the authors' own Lean function (tested against real Go, not proved from fmt's source: count such statements apart). THE CARD IS WHAT COUNTS. Prove the row's statement (the work); the ties are given (YtbgndopgllnmaaaDoorTie.lean); close each card by the builder's one call (the guide's Derived/Test/ToyasCard.lean, 'card_holds'). Laid BY PROGRAM, IN A SANDBOX (cutbox-door.mjs). By AI agents, Wed Nov 11 2026. No macro, syntax, notation, axiom, sorry.
-/
import Derived.Test.YtbgndopgllnmaaaDoorRows
import GoSem.ClaimSeven
namespace Go.Proofs.YtbgndopgllnmaaaDoor
namespace Rows

/-- THE TIED CARD OF 'interlacelaw08.FieldChecksAsSpecified'. -/
def fieldChecksAsSpecifiedCard : Claim7 := { stood := { row := fieldChecksAsSpecifiedRow, standIns := [], harness := (true, "451fa7b4ca8c5f3da98e9dfce622997068aabd53d86d9c8932ade26d6f831fc1"), looks := false }, kinds := [], alts := [], laidByText := true, laidKinds := [.data, .data, .data, .data, .pinned], laidTests := true, laidLooks := .later }
def FieldChecksAsSpecifiedCardSaid : Prop := Claim7.holds Tryd.pinned (.plain (OpenSpec.ofChange fieldChecksAsSpecifiedSpec)) fieldChecksAsSpecifiedCard

/-- THE TIED CARD OF 'interlacelaw08.FieldReadsAsSpecified'. -/
def fieldReadsAsSpecifiedCard : Claim7 := { stood := { row := fieldReadsAsSpecifiedRow, standIns := [], harness := (true, "451fa7b4ca8c5f3da98e9dfce622997068aabd53d86d9c8932ade26d6f831fc1"), looks := false }, kinds := [], alts := [], laidByText := true, laidKinds := [.data, .data, .data, .data, .pinned], laidTests := true, laidLooks := .later }
def FieldReadsAsSpecifiedCardSaid : Prop := Claim7.holds Tryd.pinned (.plain (OpenSpec.ofChange fieldReadsAsSpecifiedSpec)) fieldReadsAsSpecifiedCard

/-- THE TIED CARD OF 'interlacelaw08.FieldSets'. -/
def fieldSetsCard : Claim7 := { stood := { row := fieldSetsRow, standIns := [], harness := (true, "451fa7b4ca8c5f3da98e9dfce622997068aabd53d86d9c8932ade26d6f831fc1"), looks := false }, kinds := [], alts := [], laidByText := true, laidKinds := [.data, .data, .data, .data, .pinned], laidTests := true, laidLooks := .later }
def FieldSetsCardSaid : Prop := Claim7.holds Tryd.pinned (.plain (OpenSpec.ofChange fieldSetsSpec)) fieldSetsCard

/-- THE TIED CARD OF 'interlacelaw08.FieldPatternsMatch'. -/
def fieldPatternsMatchCard : Claim7 := { stood := { row := fieldPatternsMatchRow, standIns := [], harness := (true, "451fa7b4ca8c5f3da98e9dfce622997068aabd53d86d9c8932ade26d6f831fc1"), looks := false }, kinds := [], alts := [], laidByText := true, laidKinds := [.data, .data, .data, .data, .pinned], laidTests := true, laidLooks := .later }
def FieldPatternsMatchCardSaid : Prop := Claim7.holds Tryd.pinned (.plain (OpenSpec.ofChange fieldPatternsMatchSpec)) fieldPatternsMatchCard

/-- THE TIED CARD OF 'interlacelaw08.FieldTextsAreExact'. -/
def fieldTextsAreExactCard : Claim7 := { stood := { row := fieldTextsAreExactRow, standIns := [], harness := (true, "451fa7b4ca8c5f3da98e9dfce622997068aabd53d86d9c8932ade26d6f831fc1"), looks := false }, kinds := [], alts := [], laidByText := true, laidKinds := [.data, .data, .data, .data, .pinned], laidTests := true, laidLooks := .later }
def FieldTextsAreExactCardSaid : Prop := Claim7.holds Tryd.pinned (.plain (OpenSpec.ofChange fieldTextsAreExactSpec)) fieldTextsAreExactCard

/-- THE SECOND FORM's CARD OF 'interlacelaw08.FieldChecksAsSpecified'. -/
def fieldChecksAsSpecifiedUptoCard : Claim7 := { stood := { row := fieldChecksAsSpecifiedUptoRow, standIns := [], harness := (true, "451fa7b4ca8c5f3da98e9dfce622997068aabd53d86d9c8932ade26d6f831fc1"), looks := false }, kinds := [], alts := [], laidByText := true, laidKinds := [.data, .data, .data, .data, .pinned], laidTests := true, laidLooks := .later }
def FieldChecksAsSpecifiedUptoCardSaid : Prop := Claim7.holds Tryd.pinned (.plain (OpenSpec.upto fieldChecksAsSpecifiedSpec)) fieldChecksAsSpecifiedUptoCard

/-- THE SECOND FORM's CARD OF 'interlacelaw08.FieldReadsAsSpecified'. -/
def fieldReadsAsSpecifiedUptoCard : Claim7 := { stood := { row := fieldReadsAsSpecifiedUptoRow, standIns := [], harness := (true, "451fa7b4ca8c5f3da98e9dfce622997068aabd53d86d9c8932ade26d6f831fc1"), looks := false }, kinds := [], alts := [], laidByText := true, laidKinds := [.data, .data, .data, .data, .pinned], laidTests := true, laidLooks := .later }
def FieldReadsAsSpecifiedUptoCardSaid : Prop := Claim7.holds Tryd.pinned (.plain (OpenSpec.upto fieldReadsAsSpecifiedSpec)) fieldReadsAsSpecifiedUptoCard

/-- THE SECOND FORM's CARD OF 'interlacelaw08.FieldSets'. -/
def fieldSetsUptoCard : Claim7 := { stood := { row := fieldSetsUptoRow, standIns := [], harness := (true, "451fa7b4ca8c5f3da98e9dfce622997068aabd53d86d9c8932ade26d6f831fc1"), looks := false }, kinds := [], alts := [], laidByText := true, laidKinds := [.data, .data, .data, .data, .pinned], laidTests := true, laidLooks := .later }
def FieldSetsUptoCardSaid : Prop := Claim7.holds Tryd.pinned (.plain (OpenSpec.upto fieldSetsSpec)) fieldSetsUptoCard

/-- THE SECOND FORM's CARD OF 'interlacelaw08.FieldPatternsMatch'. -/
def fieldPatternsMatchUptoCard : Claim7 := { stood := { row := fieldPatternsMatchUptoRow, standIns := [], harness := (true, "451fa7b4ca8c5f3da98e9dfce622997068aabd53d86d9c8932ade26d6f831fc1"), looks := false }, kinds := [], alts := [], laidByText := true, laidKinds := [.data, .data, .data, .data, .pinned], laidTests := true, laidLooks := .later }
def FieldPatternsMatchUptoCardSaid : Prop := Claim7.holds Tryd.pinned (.plain (OpenSpec.upto fieldPatternsMatchSpec)) fieldPatternsMatchUptoCard

/-- THE SECOND FORM's CARD OF 'interlacelaw08.FieldTextsAreExact'. -/
def fieldTextsAreExactUptoCard : Claim7 := { stood := { row := fieldTextsAreExactUptoRow, standIns := [], harness := (true, "451fa7b4ca8c5f3da98e9dfce622997068aabd53d86d9c8932ade26d6f831fc1"), looks := false }, kinds := [], alts := [], laidByText := true, laidKinds := [.data, .data, .data, .data, .pinned], laidTests := true, laidLooks := .later }
def FieldTextsAreExactUptoCardSaid : Prop := Claim7.holds Tryd.pinned (.plain (OpenSpec.upto fieldTextsAreExactSpec)) fieldTextsAreExactUptoCard
end Rows
end Go.Proofs.YtbgndopgllnmaaaDoor
