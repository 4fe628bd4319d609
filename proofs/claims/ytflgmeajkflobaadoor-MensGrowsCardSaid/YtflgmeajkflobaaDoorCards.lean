/-
  DERIVED. GIVEN WITH THE SEED: THE CARDS: each row of YtflgmeajkflobaaDoorRows.lean that lists a variable, with what it lists TIED to the program's text (the seventh form; the later family's looks); each row that meets fmt, with fmt's text TOLD by the authors' own Lean function (tested against real Go, not proved from fmt's source: count such statements apart). THE CARD IS WHAT COUNTS. Prove the row's statement (the work); the ties are given (YtflgmeajkflobaaDoorTie.lean); close each card by the builder's one call (the guide's Derived/Test/ToyasCard.lean, 'card_holds'). Laid BY PROGRAM, IN A SANDBOX (cutbox-door.mjs). By AI agents, Wed Nov 11 2026. No macro, syntax, notation, axiom, sorry.
-/
import Derived.Test.YtflgmeajkflobaaDoorRows
import GoSem.ClaimSeven
namespace Go.Proofs.YtflgmeajkflobaaDoor
namespace Rows

/-- THE TIED CARD OF 'tactuslaw05.MensParts'. -/
def mensPartsCard : Claim7 := { stood := { row := mensPartsRow, standIns := [], harness := (true, "aa8cf939475ee5874c510394c95d3c15d566495debaec6d1fbe43800ae94fd8c"), looks := false }, kinds := [], alts := [], laidByText := true, laidKinds := [.data, .data, .data], laidTests := true, laidLooks := .later }
def MensPartsCardSaid : Prop := Claim7.holds Tryd.pinned (.plain (OpenSpec.ofChange mensPartsSpec)) mensPartsCard

/-- THE TIED CARD OF 'tactuslaw05.MensTexts'. -/
def mensTextsCard : Claim7 := { stood := { row := mensTextsRow, standIns := [], harness := (true, "aa8cf939475ee5874c510394c95d3c15d566495debaec6d1fbe43800ae94fd8c"), looks := false }, kinds := [], alts := [], laidByText := true, laidKinds := [.data, .data, .data], laidTests := true, laidLooks := .later }
def MensTextsCardSaid : Prop := Claim7.holds Tryd.pinned (.plain (OpenSpec.ofChange mensTextsSpec)) mensTextsCard

/-- THE TIED CARD OF 'tactuslaw05.MensFits'. -/
def mensFitsCard : Claim7 := { stood := { row := mensFitsRow, standIns := [], harness := (true, "aa8cf939475ee5874c510394c95d3c15d566495debaec6d1fbe43800ae94fd8c"), looks := false }, kinds := [], alts := [], laidByText := true, laidKinds := [.data, .data, .data], laidTests := true, laidLooks := .later }
def MensFitsCardSaid : Prop := Claim7.holds Tryd.pinned (.plain (OpenSpec.ofChange mensFitsSpec)) mensFitsCard

/-- THE TIED CARD OF 'tactuslaw05.MensKnown'. -/
def mensKnownCard : Claim7 := { stood := { row := mensKnownRow, standIns := [], harness := (true, "aa8cf939475ee5874c510394c95d3c15d566495debaec6d1fbe43800ae94fd8c"), looks := false }, kinds := [], alts := [], laidByText := true, laidKinds := [.data, .data, .data], laidTests := true, laidLooks := .later }
def MensKnownCardSaid : Prop := Claim7.holds Tryd.pinned (.plain (OpenSpec.ofChange mensKnownSpec)) mensKnownCard

/-- THE TIED CARD OF 'tactuslaw05.MensLadder'. -/
def mensLadderCard : Claim7 := { stood := { row := mensLadderRow, standIns := [], harness := (true, "aa8cf939475ee5874c510394c95d3c15d566495debaec6d1fbe43800ae94fd8c"), looks := false }, kinds := [], alts := [], laidByText := true, laidKinds := [.data, .data, .data], laidTests := true, laidLooks := .later }
def MensLadderCardSaid : Prop := Claim7.holds Tryd.pinned (.plain (OpenSpec.ofChange mensLadderSpec)) mensLadderCard

/-- THE TIED CARD OF 'tactuslaw05.MensNames'. -/
def mensNamesCard : Claim7 := { stood := { row := mensNamesRow, standIns := [], harness := (true, "aa8cf939475ee5874c510394c95d3c15d566495debaec6d1fbe43800ae94fd8c"), looks := false }, kinds := [], alts := [], laidByText := true, laidKinds := [.data, .data, .data], laidTests := true, laidLooks := .later }
def MensNamesCardSaid : Prop := Claim7.holds Tryd.pinned (.plain (OpenSpec.ofChange mensNamesSpec)) mensNamesCard

/-- THE TIED CARD OF 'tactuslaw05.MensGrows'. -/
def mensGrowsCard : Claim7 := { stood := { row := mensGrowsRow, standIns := [], harness := (true, "aa8cf939475ee5874c510394c95d3c15d566495debaec6d1fbe43800ae94fd8c"), looks := false }, kinds := [], alts := [], laidByText := true, laidKinds := [.data, .data, .data], laidTests := true, laidLooks := .later }
def MensGrowsCardSaid : Prop := Claim7.holds Tryd.pinned (.plain (OpenSpec.ofChange mensGrowsSpec)) mensGrowsCard

/-- THE SECOND FORM's CARD OF 'tactuslaw05.MensParts'. -/
def mensPartsUptoCard : Claim7 := { stood := { row := mensPartsUptoRow, standIns := [], harness := (true, "aa8cf939475ee5874c510394c95d3c15d566495debaec6d1fbe43800ae94fd8c"), looks := false }, kinds := [], alts := [], laidByText := true, laidKinds := [.data, .data, .data], laidTests := true, laidLooks := .later }
def MensPartsUptoCardSaid : Prop := Claim7.holds Tryd.pinned (.plain (OpenSpec.upto mensPartsSpec)) mensPartsUptoCard

/-- THE SECOND FORM's CARD OF 'tactuslaw05.MensTexts'. -/
def mensTextsUptoCard : Claim7 := { stood := { row := mensTextsUptoRow, standIns := [], harness := (true, "aa8cf939475ee5874c510394c95d3c15d566495debaec6d1fbe43800ae94fd8c"), looks := false }, kinds := [], alts := [], laidByText := true, laidKinds := [.data, .data, .data], laidTests := true, laidLooks := .later }
def MensTextsUptoCardSaid : Prop := Claim7.holds Tryd.pinned (.plain (OpenSpec.upto mensTextsSpec)) mensTextsUptoCard

/-- THE SECOND FORM's CARD OF 'tactuslaw05.MensFits'. -/
def mensFitsUptoCard : Claim7 := { stood := { row := mensFitsUptoRow, standIns := [], harness := (true, "aa8cf939475ee5874c510394c95d3c15d566495debaec6d1fbe43800ae94fd8c"), looks := false }, kinds := [], alts := [], laidByText := true, laidKinds := [.data, .data, .data], laidTests := true, laidLooks := .later }
def MensFitsUptoCardSaid : Prop := Claim7.holds Tryd.pinned (.plain (OpenSpec.upto mensFitsSpec)) mensFitsUptoCard

/-- THE SECOND FORM's CARD OF 'tactuslaw05.MensKnown'. -/
def mensKnownUptoCard : Claim7 := { stood := { row := mensKnownUptoRow, standIns := [], harness := (true, "aa8cf939475ee5874c510394c95d3c15d566495debaec6d1fbe43800ae94fd8c"), looks := false }, kinds := [], alts := [], laidByText := true, laidKinds := [.data, .data, .data], laidTests := true, laidLooks := .later }
def MensKnownUptoCardSaid : Prop := Claim7.holds Tryd.pinned (.plain (OpenSpec.upto mensKnownSpec)) mensKnownUptoCard

/-- THE SECOND FORM's CARD OF 'tactuslaw05.MensLadder'. -/
def mensLadderUptoCard : Claim7 := { stood := { row := mensLadderUptoRow, standIns := [], harness := (true, "aa8cf939475ee5874c510394c95d3c15d566495debaec6d1fbe43800ae94fd8c"), looks := false }, kinds := [], alts := [], laidByText := true, laidKinds := [.data, .data, .data], laidTests := true, laidLooks := .later }
def MensLadderUptoCardSaid : Prop := Claim7.holds Tryd.pinned (.plain (OpenSpec.upto mensLadderSpec)) mensLadderUptoCard

/-- THE SECOND FORM's CARD OF 'tactuslaw05.MensNames'. -/
def mensNamesUptoCard : Claim7 := { stood := { row := mensNamesUptoRow, standIns := [], harness := (true, "aa8cf939475ee5874c510394c95d3c15d566495debaec6d1fbe43800ae94fd8c"), looks := false }, kinds := [], alts := [], laidByText := true, laidKinds := [.data, .data, .data], laidTests := true, laidLooks := .later }
def MensNamesUptoCardSaid : Prop := Claim7.holds Tryd.pinned (.plain (OpenSpec.upto mensNamesSpec)) mensNamesUptoCard

/-- THE SECOND FORM's CARD OF 'tactuslaw05.MensGrows'. -/
def mensGrowsUptoCard : Claim7 := { stood := { row := mensGrowsUptoRow, standIns := [], harness := (true, "aa8cf939475ee5874c510394c95d3c15d566495debaec6d1fbe43800ae94fd8c"), looks := false }, kinds := [], alts := [], laidByText := true, laidKinds := [.data, .data, .data], laidTests := true, laidLooks := .later }
def MensGrowsUptoCardSaid : Prop := Claim7.holds Tryd.pinned (.plain (OpenSpec.upto mensGrowsSpec)) mensGrowsUptoCard
end Rows
end Go.Proofs.YtflgmeajkflobaaDoor
