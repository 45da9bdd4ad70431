/-
  DERIVED. GIVEN WITH THE SEED: THE CARDS: each row of YthjaelopmfjfeaaDoorRows.lean that lists a variable, with what it lists TIED to the program's text (the seventh form; the later family's looks); each row that meets fmt, with fmt's text TOLD by the authors' own Lean function (tested against real Go, not proved from fmt's source: count such statements apart). THE CARD IS WHAT COUNTS. Prove the row's statement (the work); the ties are given (YthjaelopmfjfeaaDoorTie.lean); close each card by the builder's one call (the guide's Derived/Test/ToyasCard.lean, 'card_holds'). Laid BY PROGRAM, IN A SANDBOX (cutbox-door.mjs). By AI agents, Wed Nov 11 2026. No macro, syntax, notation, axiom, sorry.
-/
import Derived.Test.YthjaelopmfjfeaaDoorRows
import GoSem.ClaimSeven
namespace Go.Proofs.YthjaelopmfjfeaaDoor
namespace Rows

/-- THE TIED CARD OF 'interlacelaw07.RatioMatchesSpec'. -/
def ratioMatchesSpecCard : Claim7 := { stood := { row := ratioMatchesSpecRow, standIns := [], harness := (true, "50ab6aefa808c4be0d50f283e2d83d4fa7384d2b05657a0f64d8e92081f184b3"), looks := true }, kinds := [], alts := [], laidByText := true, laidKinds := [.data, .data, .data, .sentinel, .sentinel], laidTests := true, laidLooks := .later }
def RatioMatchesSpecCardSaid : Prop := Claim7.holds Tryd.pinned (.plain (OpenSpec.ofChange ratioMatchesSpecSpec)) ratioMatchesSpecCard

/-- THE TIED CARD OF 'interlacelaw07.RatioIsAField'. -/
def ratioIsAFieldCard : Claim7 := { stood := { row := ratioIsAFieldRow, standIns := [], harness := (true, "50ab6aefa808c4be0d50f283e2d83d4fa7384d2b05657a0f64d8e92081f184b3"), looks := true }, kinds := [], alts := [], laidByText := true, laidKinds := [.data, .data, .data, .sentinel, .sentinel], laidTests := true, laidLooks := .later }
def RatioIsAFieldCardSaid : Prop := Claim7.holds Tryd.pinned (.plain (OpenSpec.ofChange ratioIsAFieldSpec)) ratioIsAFieldCard

/-- THE TIED CARD OF 'interlacelaw07.RatioIsOrdered'. -/
def ratioIsOrderedCard : Claim7 := { stood := { row := ratioIsOrderedRow, standIns := [], harness := (true, "50ab6aefa808c4be0d50f283e2d83d4fa7384d2b05657a0f64d8e92081f184b3"), looks := true }, kinds := [], alts := [], laidByText := true, laidKinds := [.data, .data, .data, .sentinel, .sentinel], laidTests := true, laidLooks := .later }
def RatioIsOrderedCardSaid : Prop := Claim7.holds Tryd.pinned (.plain (OpenSpec.ofChange ratioIsOrderedSpec)) ratioIsOrderedCard

/-- THE TIED CARD OF 'interlacelaw07.RatioTextsAreOne'. -/
def ratioTextsAreOneCard : Claim7 := { stood := { row := ratioTextsAreOneRow, standIns := [], harness := (true, "50ab6aefa808c4be0d50f283e2d83d4fa7384d2b05657a0f64d8e92081f184b3"), looks := true }, kinds := [], alts := [], laidByText := true, laidKinds := [.data, .data, .data, .sentinel, .sentinel], laidTests := true, laidLooks := .later }
def RatioTextsAreOneCardSaid : Prop := Claim7.holds Tryd.pinned (.plain (OpenSpec.ofChange ratioTextsAreOneSpec)) ratioTextsAreOneCard

/-- THE TIED CARD OF 'interlacelaw07.RatioSumsMatchSpec'. -/
def ratioSumsMatchSpecCard : Claim7 := { stood := { row := ratioSumsMatchSpecRow, standIns := [], harness := (true, "50ab6aefa808c4be0d50f283e2d83d4fa7384d2b05657a0f64d8e92081f184b3"), looks := true }, kinds := [], alts := [], laidByText := true, laidKinds := [.data, .data, .data, .sentinel, .sentinel], laidTests := true, laidLooks := .later }
def RatioSumsMatchSpecCardSaid : Prop := Claim7.holds Tryd.pinned (.plain (OpenSpec.ofChange ratioSumsMatchSpecSpec)) ratioSumsMatchSpecCard

/-- THE TIED CARD OF 'interlacelaw07.RatioSolvesAsSpecified'. -/
def ratioSolvesAsSpecifiedCard : Claim7 := { stood := { row := ratioSolvesAsSpecifiedRow, standIns := [], harness := (true, "50ab6aefa808c4be0d50f283e2d83d4fa7384d2b05657a0f64d8e92081f184b3"), looks := true }, kinds := [], alts := [], laidByText := true, laidKinds := [.data, .data, .data, .sentinel, .sentinel], laidTests := true, laidLooks := .later }
def RatioSolvesAsSpecifiedCardSaid : Prop := Claim7.holds Tryd.pinned (.plain (OpenSpec.ofChange ratioSolvesAsSpecifiedSpec)) ratioSolvesAsSpecifiedCard

/-- THE TIED CARD OF 'interlacelaw07.RatioCertifies'. -/
def ratioCertifiesCard : Claim7 := { stood := { row := ratioCertifiesRow, standIns := [], harness := (true, "50ab6aefa808c4be0d50f283e2d83d4fa7384d2b05657a0f64d8e92081f184b3"), looks := true }, kinds := [], alts := [], laidByText := true, laidKinds := [.data, .data, .data, .sentinel, .sentinel], laidTests := true, laidLooks := .later }
def RatioCertifiesCardSaid : Prop := Claim7.holds Tryd.pinned (.plain (OpenSpec.ofChange ratioCertifiesSpec)) ratioCertifiesCard

/-- THE SECOND FORM's CARD OF 'interlacelaw07.RatioMatchesSpec'. -/
def ratioMatchesSpecUptoCard : Claim7 := { stood := { row := ratioMatchesSpecUptoRow, standIns := [], harness := (true, "50ab6aefa808c4be0d50f283e2d83d4fa7384d2b05657a0f64d8e92081f184b3"), looks := true }, kinds := [], alts := [], laidByText := true, laidKinds := [.data, .data, .data, .sentinel, .sentinel], laidTests := true, laidLooks := .later }
def RatioMatchesSpecUptoCardSaid : Prop := Claim7.holds Tryd.pinned (.plain (OpenSpec.upto ratioMatchesSpecSpec)) ratioMatchesSpecUptoCard

/-- THE SECOND FORM's CARD OF 'interlacelaw07.RatioIsAField'. -/
def ratioIsAFieldUptoCard : Claim7 := { stood := { row := ratioIsAFieldUptoRow, standIns := [], harness := (true, "50ab6aefa808c4be0d50f283e2d83d4fa7384d2b05657a0f64d8e92081f184b3"), looks := true }, kinds := [], alts := [], laidByText := true, laidKinds := [.data, .data, .data, .sentinel, .sentinel], laidTests := true, laidLooks := .later }
def RatioIsAFieldUptoCardSaid : Prop := Claim7.holds Tryd.pinned (.plain (OpenSpec.upto ratioIsAFieldSpec)) ratioIsAFieldUptoCard

/-- THE SECOND FORM's CARD OF 'interlacelaw07.RatioIsOrdered'. -/
def ratioIsOrderedUptoCard : Claim7 := { stood := { row := ratioIsOrderedUptoRow, standIns := [], harness := (true, "50ab6aefa808c4be0d50f283e2d83d4fa7384d2b05657a0f64d8e92081f184b3"), looks := true }, kinds := [], alts := [], laidByText := true, laidKinds := [.data, .data, .data, .sentinel, .sentinel], laidTests := true, laidLooks := .later }
def RatioIsOrderedUptoCardSaid : Prop := Claim7.holds Tryd.pinned (.plain (OpenSpec.upto ratioIsOrderedSpec)) ratioIsOrderedUptoCard

/-- THE SECOND FORM's CARD OF 'interlacelaw07.RatioTextsAreOne'. -/
def ratioTextsAreOneUptoCard : Claim7 := { stood := { row := ratioTextsAreOneUptoRow, standIns := [], harness := (true, "50ab6aefa808c4be0d50f283e2d83d4fa7384d2b05657a0f64d8e92081f184b3"), looks := true }, kinds := [], alts := [], laidByText := true, laidKinds := [.data, .data, .data, .sentinel, .sentinel], laidTests := true, laidLooks := .later }
def RatioTextsAreOneUptoCardSaid : Prop := Claim7.holds Tryd.pinned (.plain (OpenSpec.upto ratioTextsAreOneSpec)) ratioTextsAreOneUptoCard

/-- THE SECOND FORM's CARD OF 'interlacelaw07.RatioSumsMatchSpec'. -/
def ratioSumsMatchSpecUptoCard : Claim7 := { stood := { row := ratioSumsMatchSpecUptoRow, standIns := [], harness := (true, "50ab6aefa808c4be0d50f283e2d83d4fa7384d2b05657a0f64d8e92081f184b3"), looks := true }, kinds := [], alts := [], laidByText := true, laidKinds := [.data, .data, .data, .sentinel, .sentinel], laidTests := true, laidLooks := .later }
def RatioSumsMatchSpecUptoCardSaid : Prop := Claim7.holds Tryd.pinned (.plain (OpenSpec.upto ratioSumsMatchSpecSpec)) ratioSumsMatchSpecUptoCard

/-- THE SECOND FORM's CARD OF 'interlacelaw07.RatioSolvesAsSpecified'. -/
def ratioSolvesAsSpecifiedUptoCard : Claim7 := { stood := { row := ratioSolvesAsSpecifiedUptoRow, standIns := [], harness := (true, "50ab6aefa808c4be0d50f283e2d83d4fa7384d2b05657a0f64d8e92081f184b3"), looks := true }, kinds := [], alts := [], laidByText := true, laidKinds := [.data, .data, .data, .sentinel, .sentinel], laidTests := true, laidLooks := .later }
def RatioSolvesAsSpecifiedUptoCardSaid : Prop := Claim7.holds Tryd.pinned (.plain (OpenSpec.upto ratioSolvesAsSpecifiedSpec)) ratioSolvesAsSpecifiedUptoCard

/-- THE SECOND FORM's CARD OF 'interlacelaw07.RatioCertifies'. -/
def ratioCertifiesUptoCard : Claim7 := { stood := { row := ratioCertifiesUptoRow, standIns := [], harness := (true, "50ab6aefa808c4be0d50f283e2d83d4fa7384d2b05657a0f64d8e92081f184b3"), looks := true }, kinds := [], alts := [], laidByText := true, laidKinds := [.data, .data, .data, .sentinel, .sentinel], laidTests := true, laidLooks := .later }
def RatioCertifiesUptoCardSaid : Prop := Claim7.holds Tryd.pinned (.plain (OpenSpec.upto ratioCertifiesSpec)) ratioCertifiesUptoCard
end Rows
end Go.Proofs.YthjaelopmfjfeaaDoor
