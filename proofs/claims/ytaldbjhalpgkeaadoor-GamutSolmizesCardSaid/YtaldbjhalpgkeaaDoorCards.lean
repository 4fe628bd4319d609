/-
  DERIVED. GIVEN WITH THE SEED: THE CARDS: each row of YtaldbjhalpgkeaaDoorRows.lean that lists a variable, with what it lists TIED to the program's text (the seventh form; the later family's looks); each row that meets fmt, with fmt's text TOLD by the authors' own Lean function (tested against real Go, not proved from fmt's source: count such statements apart). THE CARD IS WHAT COUNTS. Prove the row's statement (the work); the ties are given (YtaldbjhalpgkeaaDoorTie.lean); close each card by the builder's one call (the guide's Derived/Test/ToyasCard.lean, 'card_holds'). Laid BY PROGRAM, IN A SANDBOX (cutbox-door.mjs). By AI agents, Wed Nov 11 2026. No macro, syntax, notation, axiom, sorry.
-/
import Derived.Test.YtaldbjhalpgkeaaDoorRows
import GoSem.ClaimSeven
namespace Go.Proofs.YtaldbjhalpgkeaaDoor
namespace Rows

/-- THE TIED CARD OF 'tactuslaw04.GamutPlaces'. -/
def gamutPlacesCard : Claim7 := { stood := { row := gamutPlacesRow, standIns := [], harness := (true, "49000b40e69784ed5955eb8233e4906e3c68e981b0c03c66bf6c4fd561de0072"), looks := false }, kinds := [], alts := [], laidByText := true, laidKinds := [.data, .data], laidTests := true, laidLooks := .later }
def GamutPlacesCardSaid : Prop := Claim7.holds Tryd.pinned (.plain (OpenSpec.ofChange gamutPlacesSpec)) gamutPlacesCard

/-- THE TIED CARD OF 'tactuslaw04.GamutSolmizes'. -/
def gamutSolmizesCard : Claim7 := { stood := { row := gamutSolmizesRow, standIns := [], harness := (true, "49000b40e69784ed5955eb8233e4906e3c68e981b0c03c66bf6c4fd561de0072"), looks := false }, kinds := [], alts := [], laidByText := true, laidKinds := [.data, .data], laidTests := true, laidLooks := .later }
def GamutSolmizesCardSaid : Prop := Claim7.holds Tryd.pinned (.plain (OpenSpec.ofChange gamutSolmizesSpec)) gamutSolmizesCard

/-- THE TIED CARD OF 'tactuslaw04.GamutMutations'. -/
def gamutMutationsCard : Claim7 := { stood := { row := gamutMutationsRow, standIns := [], harness := (true, "49000b40e69784ed5955eb8233e4906e3c68e981b0c03c66bf6c4fd561de0072"), looks := false }, kinds := [], alts := [], laidByText := true, laidKinds := [.data, .data], laidTests := true, laidLooks := .later }
def GamutMutationsCardSaid : Prop := Claim7.holds Tryd.pinned (.plain (OpenSpec.ofChange gamutMutationsSpec)) gamutMutationsCard

/-- THE TIED CARD OF 'tactuslaw04.GamutKnown'. -/
def gamutKnownCard : Claim7 := { stood := { row := gamutKnownRow, standIns := [], harness := (true, "49000b40e69784ed5955eb8233e4906e3c68e981b0c03c66bf6c4fd561de0072"), looks := false }, kinds := [], alts := [], laidByText := true, laidKinds := [.data, .data], laidTests := true, laidLooks := .later }
def GamutKnownCardSaid : Prop := Claim7.holds Tryd.pinned (.plain (OpenSpec.ofChange gamutKnownSpec)) gamutKnownCard

/-- THE TIED CARD OF 'tactuslaw04.GamutBack'. -/
def gamutBackCard : Claim7 := { stood := { row := gamutBackRow, standIns := [], harness := (true, "49000b40e69784ed5955eb8233e4906e3c68e981b0c03c66bf6c4fd561de0072"), looks := false }, kinds := [], alts := [], laidByText := true, laidKinds := [.data, .data], laidTests := true, laidLooks := .later }
def GamutBackCardSaid : Prop := Claim7.holds Tryd.pinned (.plain (OpenSpec.ofChange gamutBackSpec)) gamutBackCard

/-- THE TIED CARD OF 'tactuslaw04.GamutFewest'. -/
def gamutFewestCard : Claim7 := { stood := { row := gamutFewestRow, standIns := [], harness := (true, "49000b40e69784ed5955eb8233e4906e3c68e981b0c03c66bf6c4fd561de0072"), looks := false }, kinds := [], alts := [], laidByText := true, laidKinds := [.data, .data], laidTests := true, laidLooks := .later }
def GamutFewestCardSaid : Prop := Claim7.holds Tryd.pinned (.plain (OpenSpec.ofChange gamutFewestSpec)) gamutFewestCard

/-- THE TIED CARD OF 'tactuslaw04.GamutJoins'. -/
def gamutJoinsCard : Claim7 := { stood := { row := gamutJoinsRow, standIns := [], harness := (true, "49000b40e69784ed5955eb8233e4906e3c68e981b0c03c66bf6c4fd561de0072"), looks := false }, kinds := [], alts := [], laidByText := true, laidKinds := [.data, .data], laidTests := true, laidLooks := .later }
def GamutJoinsCardSaid : Prop := Claim7.holds Tryd.pinned (.plain (OpenSpec.ofChange gamutJoinsSpec)) gamutJoinsCard

/-- THE TIED CARD OF 'tactuslaw04.GamutOctave'. -/
def gamutOctaveCard : Claim7 := { stood := { row := gamutOctaveRow, standIns := [], harness := (true, "49000b40e69784ed5955eb8233e4906e3c68e981b0c03c66bf6c4fd561de0072"), looks := false }, kinds := [], alts := [], laidByText := true, laidKinds := [.data, .data], laidTests := true, laidLooks := .later }
def GamutOctaveCardSaid : Prop := Claim7.holds Tryd.pinned (.plain (OpenSpec.ofChange gamutOctaveSpec)) gamutOctaveCard

/-- THE SECOND FORM's CARD OF 'tactuslaw04.GamutPlaces'. -/
def gamutPlacesUptoCard : Claim7 := { stood := { row := gamutPlacesUptoRow, standIns := [], harness := (true, "49000b40e69784ed5955eb8233e4906e3c68e981b0c03c66bf6c4fd561de0072"), looks := false }, kinds := [], alts := [], laidByText := true, laidKinds := [.data, .data], laidTests := true, laidLooks := .later }
def GamutPlacesUptoCardSaid : Prop := Claim7.holds Tryd.pinned (.plain (OpenSpec.upto gamutPlacesSpec)) gamutPlacesUptoCard

/-- THE SECOND FORM's CARD OF 'tactuslaw04.GamutSolmizes'. -/
def gamutSolmizesUptoCard : Claim7 := { stood := { row := gamutSolmizesUptoRow, standIns := [], harness := (true, "49000b40e69784ed5955eb8233e4906e3c68e981b0c03c66bf6c4fd561de0072"), looks := false }, kinds := [], alts := [], laidByText := true, laidKinds := [.data, .data], laidTests := true, laidLooks := .later }
def GamutSolmizesUptoCardSaid : Prop := Claim7.holds Tryd.pinned (.plain (OpenSpec.upto gamutSolmizesSpec)) gamutSolmizesUptoCard

/-- THE SECOND FORM's CARD OF 'tactuslaw04.GamutMutations'. -/
def gamutMutationsUptoCard : Claim7 := { stood := { row := gamutMutationsUptoRow, standIns := [], harness := (true, "49000b40e69784ed5955eb8233e4906e3c68e981b0c03c66bf6c4fd561de0072"), looks := false }, kinds := [], alts := [], laidByText := true, laidKinds := [.data, .data], laidTests := true, laidLooks := .later }
def GamutMutationsUptoCardSaid : Prop := Claim7.holds Tryd.pinned (.plain (OpenSpec.upto gamutMutationsSpec)) gamutMutationsUptoCard

/-- THE SECOND FORM's CARD OF 'tactuslaw04.GamutKnown'. -/
def gamutKnownUptoCard : Claim7 := { stood := { row := gamutKnownUptoRow, standIns := [], harness := (true, "49000b40e69784ed5955eb8233e4906e3c68e981b0c03c66bf6c4fd561de0072"), looks := false }, kinds := [], alts := [], laidByText := true, laidKinds := [.data, .data], laidTests := true, laidLooks := .later }
def GamutKnownUptoCardSaid : Prop := Claim7.holds Tryd.pinned (.plain (OpenSpec.upto gamutKnownSpec)) gamutKnownUptoCard

/-- THE SECOND FORM's CARD OF 'tactuslaw04.GamutBack'. -/
def gamutBackUptoCard : Claim7 := { stood := { row := gamutBackUptoRow, standIns := [], harness := (true, "49000b40e69784ed5955eb8233e4906e3c68e981b0c03c66bf6c4fd561de0072"), looks := false }, kinds := [], alts := [], laidByText := true, laidKinds := [.data, .data], laidTests := true, laidLooks := .later }
def GamutBackUptoCardSaid : Prop := Claim7.holds Tryd.pinned (.plain (OpenSpec.upto gamutBackSpec)) gamutBackUptoCard

/-- THE SECOND FORM's CARD OF 'tactuslaw04.GamutFewest'. -/
def gamutFewestUptoCard : Claim7 := { stood := { row := gamutFewestUptoRow, standIns := [], harness := (true, "49000b40e69784ed5955eb8233e4906e3c68e981b0c03c66bf6c4fd561de0072"), looks := false }, kinds := [], alts := [], laidByText := true, laidKinds := [.data, .data], laidTests := true, laidLooks := .later }
def GamutFewestUptoCardSaid : Prop := Claim7.holds Tryd.pinned (.plain (OpenSpec.upto gamutFewestSpec)) gamutFewestUptoCard

/-- THE SECOND FORM's CARD OF 'tactuslaw04.GamutJoins'. -/
def gamutJoinsUptoCard : Claim7 := { stood := { row := gamutJoinsUptoRow, standIns := [], harness := (true, "49000b40e69784ed5955eb8233e4906e3c68e981b0c03c66bf6c4fd561de0072"), looks := false }, kinds := [], alts := [], laidByText := true, laidKinds := [.data, .data], laidTests := true, laidLooks := .later }
def GamutJoinsUptoCardSaid : Prop := Claim7.holds Tryd.pinned (.plain (OpenSpec.upto gamutJoinsSpec)) gamutJoinsUptoCard

/-- THE SECOND FORM's CARD OF 'tactuslaw04.GamutOctave'. -/
def gamutOctaveUptoCard : Claim7 := { stood := { row := gamutOctaveUptoRow, standIns := [], harness := (true, "49000b40e69784ed5955eb8233e4906e3c68e981b0c03c66bf6c4fd561de0072"), looks := false }, kinds := [], alts := [], laidByText := true, laidKinds := [.data, .data], laidTests := true, laidLooks := .later }
def GamutOctaveUptoCardSaid : Prop := Claim7.holds Tryd.pinned (.plain (OpenSpec.upto gamutOctaveSpec)) gamutOctaveUptoCard
end Rows
end Go.Proofs.YtaldbjhalpgkeaaDoor
