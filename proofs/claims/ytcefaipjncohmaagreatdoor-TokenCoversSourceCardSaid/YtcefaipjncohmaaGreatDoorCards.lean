/-
  DERIVED. GIVEN WITH THE SEED: THE CARDS: each row of YtcefaipjncohmaaGreatDoorRows.lean that lists a variable, with what it lists TIED to the program's text (the seventh form; the later family's looks); each row that meets fmt, with fmt's text TOLD by the authors' own Lean function (tested against real Go, not proved from fmt's source: count such statements apart). THE CARD IS WHAT COUNTS. Prove the row's statement (the work); the ties are given (YtcefaipjncohmaaGreatDoorTie.lean); close each card by the builder's one call (the guide's Derived/Test/ToyasCard.lean, 'card_holds'). Laid BY PROGRAM, IN A SANDBOX (cutbox-door.mjs). By AI agents, Wed Nov 11 2026. No macro, syntax, notation, axiom, sorry.
-/
import Derived.Test.YtcefaipjncohmaaGreatDoorRows
import GoSem.ClaimSeven
namespace Go.Proofs.YtcefaipjncohmaaGreatDoor
namespace Rows

/-- THE TIED CARD OF 'interlacelaw10.TokenCoversSource'. -/
def tokenCoversSourceCard : Claim7 := { stood := { row := tokenCoversSourceRow, standIns := [], harness := (true, "388b302752db4bf18779e66ce6194ab60c1e2c75883b3f4394ea56b175144244"), looks := false }, kinds := [], alts := [], laidByText := true, laidKinds := [.data, .data, .data, .data, .data, .data, .pinned], laidTests := true, laidLooks := .later }
def TokenCoversSourceCardSaid : Prop := Claim7.holds Tryz.pinned (.plain (OpenSpec.ofChange tokenCoversSourceSpec)) tokenCoversSourceCard

/-- THE SECOND FORM's CARD OF 'interlacelaw10.TokenCoversSource'. -/
def tokenCoversSourceUptoCard : Claim7 := { stood := { row := tokenCoversSourceUptoRow, standIns := [], harness := (true, "388b302752db4bf18779e66ce6194ab60c1e2c75883b3f4394ea56b175144244"), looks := false }, kinds := [], alts := [], laidByText := true, laidKinds := [.data, .data, .data, .data, .data, .data, .pinned], laidTests := true, laidLooks := .later }
def TokenCoversSourceUptoCardSaid : Prop := Claim7.holds Tryz.pinned (.plain (OpenSpec.upto tokenCoversSourceSpec)) tokenCoversSourceUptoCard
end Rows
end Go.Proofs.YtcefaipjncohmaaGreatDoor
