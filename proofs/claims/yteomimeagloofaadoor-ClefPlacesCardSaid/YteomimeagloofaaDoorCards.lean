/-
  DERIVED. GIVEN WITH THE SEED: THE CARDS: each row of YteomimeagloofaaDoorRows.lean that lists a variable, with what it lists TIED to the program's text (the seventh form; the later family's looks); each row that meets fmt, with fmt's text TOLD by the authors' own Lean function (tested against real Go, not proved from fmt's source: count such statements apart). THE CARD IS WHAT COUNTS. Prove the row's statement (the work); the ties are given (YteomimeagloofaaDoorTie.lean); close each card by the builder's one call (the guide's Derived/Test/ToyasCard.lean, 'card_holds'). Laid BY PROGRAM, IN A SANDBOX (cutbox-door.mjs). By AI agents, Wed Nov 11 2026. No macro, syntax, notation, axiom, sorry.
-/
import Derived.Test.YteomimeagloofaaDoorRows
import GoSem.ClaimSeven
namespace Go.Proofs.YteomimeagloofaaDoor
namespace Rows

/-- THE TIED CARD OF 'tactuslaw06.ClefPlaces'. -/
def clefPlacesCard : Claim7 := { stood := { row := clefPlacesRow, standIns := [], harness := (true, "85cf9ede5c5bd5f8d286e251adac72c264d83f546ae52c11051d1d39a3aa2eb3"), looks := false }, kinds := [], alts := [], laidByText := true, laidKinds := [.data, .data], laidTests := true, laidLooks := .later }
def ClefPlacesCardSaid : Prop := Claim7.holds Tryd.pinned (.plain (OpenSpec.ofChange clefPlacesSpec)) clefPlacesCard

/-- THE TIED CARD OF 'tactuslaw06.ClefPitches'. -/
def clefPitchesCard : Claim7 := { stood := { row := clefPitchesRow, standIns := [], harness := (true, "85cf9ede5c5bd5f8d286e251adac72c264d83f546ae52c11051d1d39a3aa2eb3"), looks := false }, kinds := [], alts := [], laidByText := true, laidKinds := [.data, .data], laidTests := true, laidLooks := .later }
def ClefPitchesCardSaid : Prop := Claim7.holds Tryd.pinned (.plain (OpenSpec.ofChange clefPitchesSpec)) clefPitchesCard

/-- THE TIED CARD OF 'tactuslaw06.ClefBest'. -/
def clefBestCard : Claim7 := { stood := { row := clefBestRow, standIns := [], harness := (true, "85cf9ede5c5bd5f8d286e251adac72c264d83f546ae52c11051d1d39a3aa2eb3"), looks := false }, kinds := [], alts := [], laidByText := true, laidKinds := [.data, .data], laidTests := true, laidLooks := .later }
def ClefBestCardSaid : Prop := Claim7.holds Tryd.pinned (.plain (OpenSpec.ofChange clefBestSpec)) clefBestCard

/-- THE TIED CARD OF 'tactuslaw06.ClefKnown'. -/
def clefKnownCard : Claim7 := { stood := { row := clefKnownRow, standIns := [], harness := (true, "85cf9ede5c5bd5f8d286e251adac72c264d83f546ae52c11051d1d39a3aa2eb3"), looks := false }, kinds := [], alts := [], laidByText := true, laidKinds := [.data, .data], laidTests := true, laidLooks := .later }
def ClefKnownCardSaid : Prop := Claim7.holds Tryd.pinned (.plain (OpenSpec.ofChange clefKnownSpec)) clefKnownCard

/-- THE TIED CARD OF 'tactuslaw06.ClefBack'. -/
def clefBackCard : Claim7 := { stood := { row := clefBackRow, standIns := [], harness := (true, "85cf9ede5c5bd5f8d286e251adac72c264d83f546ae52c11051d1d39a3aa2eb3"), looks := false }, kinds := [], alts := [], laidByText := true, laidKinds := [.data, .data], laidTests := true, laidLooks := .later }
def ClefBackCardSaid : Prop := Claim7.holds Tryd.pinned (.plain (OpenSpec.ofChange clefBackSpec)) clefBackCard

/-- THE TIED CARD OF 'tactuslaw06.ClefMoved'. -/
def clefMovedCard : Claim7 := { stood := { row := clefMovedRow, standIns := [], harness := (true, "85cf9ede5c5bd5f8d286e251adac72c264d83f546ae52c11051d1d39a3aa2eb3"), looks := false }, kinds := [], alts := [], laidByText := true, laidKinds := [.data, .data], laidTests := true, laidLooks := .later }
def ClefMovedCardSaid : Prop := Claim7.holds Tryd.pinned (.plain (OpenSpec.ofChange clefMovedSpec)) clefMovedCard

/-- THE TIED CARD OF 'tactuslaw06.ClefFewest'. -/
def clefFewestCard : Claim7 := { stood := { row := clefFewestRow, standIns := [], harness := (true, "85cf9ede5c5bd5f8d286e251adac72c264d83f546ae52c11051d1d39a3aa2eb3"), looks := false }, kinds := [], alts := [], laidByText := true, laidKinds := [.data, .data], laidTests := true, laidLooks := .later }
def ClefFewestCardSaid : Prop := Claim7.holds Tryd.pinned (.plain (OpenSpec.ofChange clefFewestSpec)) clefFewestCard

/-- THE SECOND FORM's CARD OF 'tactuslaw06.ClefPlaces'. -/
def clefPlacesUptoCard : Claim7 := { stood := { row := clefPlacesUptoRow, standIns := [], harness := (true, "85cf9ede5c5bd5f8d286e251adac72c264d83f546ae52c11051d1d39a3aa2eb3"), looks := false }, kinds := [], alts := [], laidByText := true, laidKinds := [.data, .data], laidTests := true, laidLooks := .later }
def ClefPlacesUptoCardSaid : Prop := Claim7.holds Tryd.pinned (.plain (OpenSpec.upto clefPlacesSpec)) clefPlacesUptoCard

/-- THE SECOND FORM's CARD OF 'tactuslaw06.ClefPitches'. -/
def clefPitchesUptoCard : Claim7 := { stood := { row := clefPitchesUptoRow, standIns := [], harness := (true, "85cf9ede5c5bd5f8d286e251adac72c264d83f546ae52c11051d1d39a3aa2eb3"), looks := false }, kinds := [], alts := [], laidByText := true, laidKinds := [.data, .data], laidTests := true, laidLooks := .later }
def ClefPitchesUptoCardSaid : Prop := Claim7.holds Tryd.pinned (.plain (OpenSpec.upto clefPitchesSpec)) clefPitchesUptoCard

/-- THE SECOND FORM's CARD OF 'tactuslaw06.ClefBest'. -/
def clefBestUptoCard : Claim7 := { stood := { row := clefBestUptoRow, standIns := [], harness := (true, "85cf9ede5c5bd5f8d286e251adac72c264d83f546ae52c11051d1d39a3aa2eb3"), looks := false }, kinds := [], alts := [], laidByText := true, laidKinds := [.data, .data], laidTests := true, laidLooks := .later }
def ClefBestUptoCardSaid : Prop := Claim7.holds Tryd.pinned (.plain (OpenSpec.upto clefBestSpec)) clefBestUptoCard

/-- THE SECOND FORM's CARD OF 'tactuslaw06.ClefKnown'. -/
def clefKnownUptoCard : Claim7 := { stood := { row := clefKnownUptoRow, standIns := [], harness := (true, "85cf9ede5c5bd5f8d286e251adac72c264d83f546ae52c11051d1d39a3aa2eb3"), looks := false }, kinds := [], alts := [], laidByText := true, laidKinds := [.data, .data], laidTests := true, laidLooks := .later }
def ClefKnownUptoCardSaid : Prop := Claim7.holds Tryd.pinned (.plain (OpenSpec.upto clefKnownSpec)) clefKnownUptoCard

/-- THE SECOND FORM's CARD OF 'tactuslaw06.ClefBack'. -/
def clefBackUptoCard : Claim7 := { stood := { row := clefBackUptoRow, standIns := [], harness := (true, "85cf9ede5c5bd5f8d286e251adac72c264d83f546ae52c11051d1d39a3aa2eb3"), looks := false }, kinds := [], alts := [], laidByText := true, laidKinds := [.data, .data], laidTests := true, laidLooks := .later }
def ClefBackUptoCardSaid : Prop := Claim7.holds Tryd.pinned (.plain (OpenSpec.upto clefBackSpec)) clefBackUptoCard

/-- THE SECOND FORM's CARD OF 'tactuslaw06.ClefMoved'. -/
def clefMovedUptoCard : Claim7 := { stood := { row := clefMovedUptoRow, standIns := [], harness := (true, "85cf9ede5c5bd5f8d286e251adac72c264d83f546ae52c11051d1d39a3aa2eb3"), looks := false }, kinds := [], alts := [], laidByText := true, laidKinds := [.data, .data], laidTests := true, laidLooks := .later }
def ClefMovedUptoCardSaid : Prop := Claim7.holds Tryd.pinned (.plain (OpenSpec.upto clefMovedSpec)) clefMovedUptoCard

/-- THE SECOND FORM's CARD OF 'tactuslaw06.ClefFewest'. -/
def clefFewestUptoCard : Claim7 := { stood := { row := clefFewestUptoRow, standIns := [], harness := (true, "85cf9ede5c5bd5f8d286e251adac72c264d83f546ae52c11051d1d39a3aa2eb3"), looks := false }, kinds := [], alts := [], laidByText := true, laidKinds := [.data, .data], laidTests := true, laidLooks := .later }
def ClefFewestUptoCardSaid : Prop := Claim7.holds Tryd.pinned (.plain (OpenSpec.upto clefFewestSpec)) clefFewestUptoCard
end Rows
end Go.Proofs.YteomimeagloofaaDoor
