/-
  DERIVED. GIVEN WITH THE SEED: THE CARDS: each row of YtlpocfojgibhjaaDoorRows.lean that lists a variable, with what it lists TIED to the program's text (the seventh form; the later family's looks); each row that meets fmt, with fmt's text TOLD by the authors' own Lean function (tested against real Go, not proved from fmt's source: count such statements apart). THE CARD IS WHAT COUNTS. Prove the row's statement (the work); the ties are given (YtlpocfojgibhjaaDoorTie.lean); close each card by the builder's one call (the guide's Derived/Test/ToyasCard.lean, 'card_holds'). Laid BY PROGRAM, IN A SANDBOX (cutbox-door.mjs). By AI agents, Wed Nov 11 2026. No macro, syntax, notation, axiom, sorry.
-/
import Derived.Test.YtlpocfojgibhjaaDoorRows
import GoSem.ClaimSeven
namespace Go.Proofs.YtlpocfojgibhjaaDoor
namespace Rows

/-- THE TIED CARD OF 'interlacelaw10.TokenMatchesSpec'. -/
def tokenMatchesSpecCard : Claim7 := { stood := { row := tokenMatchesSpecRow, standIns := [], harness := (true, "a034d2dbcd2dea6a791a3a7a059b11945a480644e1484a17fc3533d7e585e7b0"), looks := false }, kinds := [], alts := [], laidByText := true, laidKinds := [.data, .data, .data, .data, .data], laidTests := true, laidLooks := .later }
def TokenMatchesSpecCardSaid : Prop := Claim7.holds Tryd.pinned (.plain (OpenSpec.ofChange tokenMatchesSpecSpec)) tokenMatchesSpecCard

/-- THE TIED CARD OF 'interlacelaw10.TokenReadsNames'. -/
def tokenReadsNamesCard : Claim7 := { stood := { row := tokenReadsNamesRow, standIns := [], harness := (true, "a034d2dbcd2dea6a791a3a7a059b11945a480644e1484a17fc3533d7e585e7b0"), looks := false }, kinds := [], alts := [], laidByText := true, laidKinds := [.data, .data, .data, .data, .data], laidTests := true, laidLooks := .later }
def TokenReadsNamesCardSaid : Prop := Claim7.holds Tryd.pinned (.plain (OpenSpec.ofChange tokenReadsNamesSpec)) tokenReadsNamesCard

/-- THE TIED CARD OF 'interlacelaw10.TokenIsLocal'. -/
def tokenIsLocalCard : Claim7 := { stood := { row := tokenIsLocalRow, standIns := [], harness := (true, "a034d2dbcd2dea6a791a3a7a059b11945a480644e1484a17fc3533d7e585e7b0"), looks := false }, kinds := [], alts := [], laidByText := true, laidKinds := [.data, .data, .data, .data, .data], laidTests := true, laidLooks := .later }
def TokenIsLocalCardSaid : Prop := Claim7.holds Tryd.pinned (.plain (OpenSpec.ofChange tokenIsLocalSpec)) tokenIsLocalCard

/-- THE TIED CARD OF 'interlacelaw10.TokenJoins'. -/
def tokenJoinsCard : Claim7 := { stood := { row := tokenJoinsRow, standIns := [], harness := (true, "a034d2dbcd2dea6a791a3a7a059b11945a480644e1484a17fc3533d7e585e7b0"), looks := false }, kinds := [], alts := [], laidByText := true, laidKinds := [.data, .data, .data, .data, .data, .data, .pinned], laidTests := true, laidLooks := .later }
def TokenJoinsCardSaid : Prop := Claim7.holds Tryd.pinned (.plain (OpenSpec.ofChange tokenJoinsSpec)) tokenJoinsCard

/-- THE SECOND FORM's CARD OF 'interlacelaw10.TokenMatchesSpec'. -/
def tokenMatchesSpecUptoCard : Claim7 := { stood := { row := tokenMatchesSpecUptoRow, standIns := [], harness := (true, "a034d2dbcd2dea6a791a3a7a059b11945a480644e1484a17fc3533d7e585e7b0"), looks := false }, kinds := [], alts := [], laidByText := true, laidKinds := [.data, .data, .data, .data, .data], laidTests := true, laidLooks := .later }
def TokenMatchesSpecUptoCardSaid : Prop := Claim7.holds Tryd.pinned (.plain (OpenSpec.upto tokenMatchesSpecSpec)) tokenMatchesSpecUptoCard

/-- THE SECOND FORM's CARD OF 'interlacelaw10.TokenReadsNames'. -/
def tokenReadsNamesUptoCard : Claim7 := { stood := { row := tokenReadsNamesUptoRow, standIns := [], harness := (true, "a034d2dbcd2dea6a791a3a7a059b11945a480644e1484a17fc3533d7e585e7b0"), looks := false }, kinds := [], alts := [], laidByText := true, laidKinds := [.data, .data, .data, .data, .data], laidTests := true, laidLooks := .later }
def TokenReadsNamesUptoCardSaid : Prop := Claim7.holds Tryd.pinned (.plain (OpenSpec.upto tokenReadsNamesSpec)) tokenReadsNamesUptoCard

/-- THE SECOND FORM's CARD OF 'interlacelaw10.TokenIsLocal'. -/
def tokenIsLocalUptoCard : Claim7 := { stood := { row := tokenIsLocalUptoRow, standIns := [], harness := (true, "a034d2dbcd2dea6a791a3a7a059b11945a480644e1484a17fc3533d7e585e7b0"), looks := false }, kinds := [], alts := [], laidByText := true, laidKinds := [.data, .data, .data, .data, .data], laidTests := true, laidLooks := .later }
def TokenIsLocalUptoCardSaid : Prop := Claim7.holds Tryd.pinned (.plain (OpenSpec.upto tokenIsLocalSpec)) tokenIsLocalUptoCard

/-- THE SECOND FORM's CARD OF 'interlacelaw10.TokenJoins'. -/
def tokenJoinsUptoCard : Claim7 := { stood := { row := tokenJoinsUptoRow, standIns := [], harness := (true, "a034d2dbcd2dea6a791a3a7a059b11945a480644e1484a17fc3533d7e585e7b0"), looks := false }, kinds := [], alts := [], laidByText := true, laidKinds := [.data, .data, .data, .data, .data, .data, .pinned], laidTests := true, laidLooks := .later }
def TokenJoinsUptoCardSaid : Prop := Claim7.holds Tryd.pinned (.plain (OpenSpec.upto tokenJoinsSpec)) tokenJoinsUptoCard
end Rows
end Go.Proofs.YtlpocfojgibhjaaDoor
