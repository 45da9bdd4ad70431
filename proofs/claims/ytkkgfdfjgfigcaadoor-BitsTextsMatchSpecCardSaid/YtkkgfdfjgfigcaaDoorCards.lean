/-
  DERIVED. GIVEN WITH THE SEED: THE CARDS: each row of YtkkgfdfjgfigcaaDoorRows.lean that lists a variable, with what it lists TIED to the program's text (the seventh form; the later family's looks); each row that meets fmt, with fmt's text TOLD by the authors' own Lean function (tested against real Go, not proved from fmt's source: count such statements apart). THE CARD IS WHAT COUNTS. Prove the row's statement (the work); the ties are given (YtkkgfdfjgfigcaaDoorTie.lean); close each card by the builder's one call (the guide's Derived/Test/ToyasCard.lean, 'card_holds'). Laid BY PROGRAM, IN A SANDBOX (cutbox-door.mjs). By AI agents, Wed Nov 11 2026. No macro, syntax, notation, axiom, sorry.
-/
import Derived.Test.YtkkgfdfjgfigcaaDoorRows
import GoSem.ClaimSeven
namespace Go.Proofs.YtkkgfdfjgfigcaaDoor
namespace Rows

/-- THE TIED CARD OF 'interlacelaw06.BitsTextsMatchSpec'. -/
def bitsTextsMatchSpecCard : Claim7 := { stood := { row := bitsTextsMatchSpecRow, standIns := [], harness := (true, "b06cd5eb43692b92192538eb370cca4975e914ba1610f6003893d89eb6657715"), looks := true }, kinds := [], alts := [], laidByText := true, laidKinds := [.data, .pinned], laidTests := true, laidLooks := .later }
def BitsTextsMatchSpecCardSaid : Prop := Claim7.holds Tryd.pinned (.plain (OpenSpec.ofChange bitsTextsMatchSpecSpec)) bitsTextsMatchSpecCard

/-- THE TIED CARD OF 'interlacelaw10.TokenMatchesSpec'. -/
def tokenMatchesSpecCard : Claim7 := { stood := { row := tokenMatchesSpecRow, standIns := [], harness := (true, "b06cd5eb43692b92192538eb370cca4975e914ba1610f6003893d89eb6657715"), looks := true }, kinds := [], alts := [], laidByText := true, laidKinds := [.data, .data, .data, .data, .data], laidTests := true, laidLooks := .later }
def TokenMatchesSpecCardSaid : Prop := Claim7.holds Tryd.pinned (.plain (OpenSpec.ofChange tokenMatchesSpecSpec)) tokenMatchesSpecCard

/-- THE TIED CARD OF 'interlacelaw10.TokenReadsNames'. -/
def tokenReadsNamesCard : Claim7 := { stood := { row := tokenReadsNamesRow, standIns := [], harness := (true, "b06cd5eb43692b92192538eb370cca4975e914ba1610f6003893d89eb6657715"), looks := true }, kinds := [], alts := [], laidByText := true, laidKinds := [.data, .data, .data, .data, .data], laidTests := true, laidLooks := .later }
def TokenReadsNamesCardSaid : Prop := Claim7.holds Tryd.pinned (.plain (OpenSpec.ofChange tokenReadsNamesSpec)) tokenReadsNamesCard

/-- THE TIED CARD OF 'interlacelaw10.TokenIsLocal'. -/
def tokenIsLocalCard : Claim7 := { stood := { row := tokenIsLocalRow, standIns := [], harness := (true, "b06cd5eb43692b92192538eb370cca4975e914ba1610f6003893d89eb6657715"), looks := true }, kinds := [], alts := [], laidByText := true, laidKinds := [.data, .data, .data, .data, .data], laidTests := true, laidLooks := .later }
def TokenIsLocalCardSaid : Prop := Claim7.holds Tryd.pinned (.plain (OpenSpec.ofChange tokenIsLocalSpec)) tokenIsLocalCard

/-- THE TIED CARD OF 'interlacelaw10.TokenJoins'. -/
def tokenJoinsCard : Claim7 := { stood := { row := tokenJoinsRow, standIns := [], harness := (true, "b06cd5eb43692b92192538eb370cca4975e914ba1610f6003893d89eb6657715"), looks := true }, kinds := [], alts := [], laidByText := true, laidKinds := [.data, .data, .data, .data, .data, .data, .pinned], laidTests := true, laidLooks := .later }
def TokenJoinsCardSaid : Prop := Claim7.holds Tryd.pinned (.plain (OpenSpec.ofChange tokenJoinsSpec)) tokenJoinsCard

/-- THE TIED CARD OF 'interlacelaw07.RatioMatchesSpec'. -/
def ratioMatchesSpecCard : Claim7 := { stood := { row := ratioMatchesSpecRow, standIns := [], harness := (true, "b06cd5eb43692b92192538eb370cca4975e914ba1610f6003893d89eb6657715"), looks := true }, kinds := [], alts := [], laidByText := true, laidKinds := [.data, .data, .data, .sentinel, .sentinel], laidTests := true, laidLooks := .later }
def RatioMatchesSpecCardSaid : Prop := Claim7.holds Tryd.pinned (.plain (OpenSpec.ofChange ratioMatchesSpecSpec)) ratioMatchesSpecCard

/-- THE TIED CARD OF 'interlacelaw07.RatioIsAField'. -/
def ratioIsAFieldCard : Claim7 := { stood := { row := ratioIsAFieldRow, standIns := [], harness := (true, "b06cd5eb43692b92192538eb370cca4975e914ba1610f6003893d89eb6657715"), looks := true }, kinds := [], alts := [], laidByText := true, laidKinds := [.data, .data, .data, .sentinel, .sentinel], laidTests := true, laidLooks := .later }
def RatioIsAFieldCardSaid : Prop := Claim7.holds Tryd.pinned (.plain (OpenSpec.ofChange ratioIsAFieldSpec)) ratioIsAFieldCard

/-- THE TIED CARD OF 'interlacelaw07.RatioIsOrdered'. -/
def ratioIsOrderedCard : Claim7 := { stood := { row := ratioIsOrderedRow, standIns := [], harness := (true, "b06cd5eb43692b92192538eb370cca4975e914ba1610f6003893d89eb6657715"), looks := true }, kinds := [], alts := [], laidByText := true, laidKinds := [.data, .data, .data, .sentinel, .sentinel], laidTests := true, laidLooks := .later }
def RatioIsOrderedCardSaid : Prop := Claim7.holds Tryd.pinned (.plain (OpenSpec.ofChange ratioIsOrderedSpec)) ratioIsOrderedCard

/-- THE TIED CARD OF 'interlacelaw07.RatioTextsAreOne'. -/
def ratioTextsAreOneCard : Claim7 := { stood := { row := ratioTextsAreOneRow, standIns := [], harness := (true, "b06cd5eb43692b92192538eb370cca4975e914ba1610f6003893d89eb6657715"), looks := true }, kinds := [], alts := [], laidByText := true, laidKinds := [.data, .data, .data, .sentinel, .sentinel], laidTests := true, laidLooks := .later }
def RatioTextsAreOneCardSaid : Prop := Claim7.holds Tryd.pinned (.plain (OpenSpec.ofChange ratioTextsAreOneSpec)) ratioTextsAreOneCard

/-- THE TIED CARD OF 'interlacelaw07.RatioSumsMatchSpec'. -/
def ratioSumsMatchSpecCard : Claim7 := { stood := { row := ratioSumsMatchSpecRow, standIns := [], harness := (true, "b06cd5eb43692b92192538eb370cca4975e914ba1610f6003893d89eb6657715"), looks := true }, kinds := [], alts := [], laidByText := true, laidKinds := [.data, .data, .data, .sentinel, .sentinel], laidTests := true, laidLooks := .later }
def RatioSumsMatchSpecCardSaid : Prop := Claim7.holds Tryd.pinned (.plain (OpenSpec.ofChange ratioSumsMatchSpecSpec)) ratioSumsMatchSpecCard

/-- THE TIED CARD OF 'interlacelaw07.RatioSolvesAsSpecified'. -/
def ratioSolvesAsSpecifiedCard : Claim7 := { stood := { row := ratioSolvesAsSpecifiedRow, standIns := [], harness := (true, "b06cd5eb43692b92192538eb370cca4975e914ba1610f6003893d89eb6657715"), looks := true }, kinds := [], alts := [], laidByText := true, laidKinds := [.data, .data, .data, .sentinel, .sentinel], laidTests := true, laidLooks := .later }
def RatioSolvesAsSpecifiedCardSaid : Prop := Claim7.holds Tryd.pinned (.plain (OpenSpec.ofChange ratioSolvesAsSpecifiedSpec)) ratioSolvesAsSpecifiedCard

/-- THE SECOND FORM's CARD OF 'interlacelaw06.BitsTextsMatchSpec'. -/
def bitsTextsMatchSpecUptoCard : Claim7 := { stood := { row := bitsTextsMatchSpecUptoRow, standIns := [], harness := (true, "b06cd5eb43692b92192538eb370cca4975e914ba1610f6003893d89eb6657715"), looks := true }, kinds := [], alts := [], laidByText := true, laidKinds := [.data, .pinned], laidTests := true, laidLooks := .later }
def BitsTextsMatchSpecUptoCardSaid : Prop := Claim7.holds Tryd.pinned (.plain (OpenSpec.upto bitsTextsMatchSpecSpec)) bitsTextsMatchSpecUptoCard

/-- THE SECOND FORM's CARD OF 'interlacelaw10.TokenMatchesSpec'. -/
def tokenMatchesSpecUptoCard : Claim7 := { stood := { row := tokenMatchesSpecUptoRow, standIns := [], harness := (true, "b06cd5eb43692b92192538eb370cca4975e914ba1610f6003893d89eb6657715"), looks := true }, kinds := [], alts := [], laidByText := true, laidKinds := [.data, .data, .data, .data, .data], laidTests := true, laidLooks := .later }
def TokenMatchesSpecUptoCardSaid : Prop := Claim7.holds Tryd.pinned (.plain (OpenSpec.upto tokenMatchesSpecSpec)) tokenMatchesSpecUptoCard

/-- THE SECOND FORM's CARD OF 'interlacelaw10.TokenReadsNames'. -/
def tokenReadsNamesUptoCard : Claim7 := { stood := { row := tokenReadsNamesUptoRow, standIns := [], harness := (true, "b06cd5eb43692b92192538eb370cca4975e914ba1610f6003893d89eb6657715"), looks := true }, kinds := [], alts := [], laidByText := true, laidKinds := [.data, .data, .data, .data, .data], laidTests := true, laidLooks := .later }
def TokenReadsNamesUptoCardSaid : Prop := Claim7.holds Tryd.pinned (.plain (OpenSpec.upto tokenReadsNamesSpec)) tokenReadsNamesUptoCard

/-- THE SECOND FORM's CARD OF 'interlacelaw10.TokenIsLocal'. -/
def tokenIsLocalUptoCard : Claim7 := { stood := { row := tokenIsLocalUptoRow, standIns := [], harness := (true, "b06cd5eb43692b92192538eb370cca4975e914ba1610f6003893d89eb6657715"), looks := true }, kinds := [], alts := [], laidByText := true, laidKinds := [.data, .data, .data, .data, .data], laidTests := true, laidLooks := .later }
def TokenIsLocalUptoCardSaid : Prop := Claim7.holds Tryd.pinned (.plain (OpenSpec.upto tokenIsLocalSpec)) tokenIsLocalUptoCard

/-- THE SECOND FORM's CARD OF 'interlacelaw10.TokenJoins'. -/
def tokenJoinsUptoCard : Claim7 := { stood := { row := tokenJoinsUptoRow, standIns := [], harness := (true, "b06cd5eb43692b92192538eb370cca4975e914ba1610f6003893d89eb6657715"), looks := true }, kinds := [], alts := [], laidByText := true, laidKinds := [.data, .data, .data, .data, .data, .data, .pinned], laidTests := true, laidLooks := .later }
def TokenJoinsUptoCardSaid : Prop := Claim7.holds Tryd.pinned (.plain (OpenSpec.upto tokenJoinsSpec)) tokenJoinsUptoCard

/-- THE SECOND FORM's CARD OF 'interlacelaw07.RatioMatchesSpec'. -/
def ratioMatchesSpecUptoCard : Claim7 := { stood := { row := ratioMatchesSpecUptoRow, standIns := [], harness := (true, "b06cd5eb43692b92192538eb370cca4975e914ba1610f6003893d89eb6657715"), looks := true }, kinds := [], alts := [], laidByText := true, laidKinds := [.data, .data, .data, .sentinel, .sentinel], laidTests := true, laidLooks := .later }
def RatioMatchesSpecUptoCardSaid : Prop := Claim7.holds Tryd.pinned (.plain (OpenSpec.upto ratioMatchesSpecSpec)) ratioMatchesSpecUptoCard

/-- THE SECOND FORM's CARD OF 'interlacelaw07.RatioIsAField'. -/
def ratioIsAFieldUptoCard : Claim7 := { stood := { row := ratioIsAFieldUptoRow, standIns := [], harness := (true, "b06cd5eb43692b92192538eb370cca4975e914ba1610f6003893d89eb6657715"), looks := true }, kinds := [], alts := [], laidByText := true, laidKinds := [.data, .data, .data, .sentinel, .sentinel], laidTests := true, laidLooks := .later }
def RatioIsAFieldUptoCardSaid : Prop := Claim7.holds Tryd.pinned (.plain (OpenSpec.upto ratioIsAFieldSpec)) ratioIsAFieldUptoCard

/-- THE SECOND FORM's CARD OF 'interlacelaw07.RatioIsOrdered'. -/
def ratioIsOrderedUptoCard : Claim7 := { stood := { row := ratioIsOrderedUptoRow, standIns := [], harness := (true, "b06cd5eb43692b92192538eb370cca4975e914ba1610f6003893d89eb6657715"), looks := true }, kinds := [], alts := [], laidByText := true, laidKinds := [.data, .data, .data, .sentinel, .sentinel], laidTests := true, laidLooks := .later }
def RatioIsOrderedUptoCardSaid : Prop := Claim7.holds Tryd.pinned (.plain (OpenSpec.upto ratioIsOrderedSpec)) ratioIsOrderedUptoCard

/-- THE SECOND FORM's CARD OF 'interlacelaw07.RatioTextsAreOne'. -/
def ratioTextsAreOneUptoCard : Claim7 := { stood := { row := ratioTextsAreOneUptoRow, standIns := [], harness := (true, "b06cd5eb43692b92192538eb370cca4975e914ba1610f6003893d89eb6657715"), looks := true }, kinds := [], alts := [], laidByText := true, laidKinds := [.data, .data, .data, .sentinel, .sentinel], laidTests := true, laidLooks := .later }
def RatioTextsAreOneUptoCardSaid : Prop := Claim7.holds Tryd.pinned (.plain (OpenSpec.upto ratioTextsAreOneSpec)) ratioTextsAreOneUptoCard

/-- THE SECOND FORM's CARD OF 'interlacelaw07.RatioSumsMatchSpec'. -/
def ratioSumsMatchSpecUptoCard : Claim7 := { stood := { row := ratioSumsMatchSpecUptoRow, standIns := [], harness := (true, "b06cd5eb43692b92192538eb370cca4975e914ba1610f6003893d89eb6657715"), looks := true }, kinds := [], alts := [], laidByText := true, laidKinds := [.data, .data, .data, .sentinel, .sentinel], laidTests := true, laidLooks := .later }
def RatioSumsMatchSpecUptoCardSaid : Prop := Claim7.holds Tryd.pinned (.plain (OpenSpec.upto ratioSumsMatchSpecSpec)) ratioSumsMatchSpecUptoCard

/-- THE SECOND FORM's CARD OF 'interlacelaw07.RatioSolvesAsSpecified'. -/
def ratioSolvesAsSpecifiedUptoCard : Claim7 := { stood := { row := ratioSolvesAsSpecifiedUptoRow, standIns := [], harness := (true, "b06cd5eb43692b92192538eb370cca4975e914ba1610f6003893d89eb6657715"), looks := true }, kinds := [], alts := [], laidByText := true, laidKinds := [.data, .data, .data, .sentinel, .sentinel], laidTests := true, laidLooks := .later }
def RatioSolvesAsSpecifiedUptoCardSaid : Prop := Claim7.holds Tryd.pinned (.plain (OpenSpec.upto ratioSolvesAsSpecifiedSpec)) ratioSolvesAsSpecifiedUptoCard
end Rows
end Go.Proofs.YtkkgfdfjgfigcaaDoor
