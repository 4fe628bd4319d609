/-
  DERIVED. GIVEN WITH THE SEED: THE CARDS: each row of YtcomjcflllfobaaDoorRows.lean that lists a variable, with what it lists TIED to the program's text (the seventh form; the later family's looks); each row that meets fmt, with fmt's text TOLD by the authors' own Lean function (tested against real Go, not proved from fmt's source: count such statements apart). THE CARD IS WHAT COUNTS. Prove the row's statement (the work); the ties are given (YtcomjcflllfobaaDoorTie.lean); close each card by the builder's one call (the guide's Derived/Test/ToyasCard.lean, 'card_holds'). Laid BY PROGRAM, IN A SANDBOX (cutbox-door.mjs). By AI agents, Wed Nov 11 2026. No macro, syntax, notation, axiom, sorry.
-/
import Derived.Test.YtcomjcflllfobaaDoorRows
import GoSem.ClaimSeven
namespace Go.Proofs.YtcomjcflllfobaaDoor
namespace Rows

/-- THE TIED CARD OF 'tactuslaw08.SignOnes'. -/
def signOnesCard : Claim7 := { stood := { row := signOnesRow, standIns := [], harness := (true, "f792c37039a3b4f6fafaf84751f95a840594154a0b1537d6e07e53e9a27be61e"), looks := false }, kinds := [], alts := [], laidByText := true, laidKinds := [.data, .data], laidTests := true, laidLooks := .later }
def SignOnesCardSaid : Prop := Claim7.holds Tryd.pinned (.plain (OpenSpec.ofChange signOnesSpec)) signOnesCard

/-- THE TIED CARD OF 'tactuslaw08.SignParts'. -/
def signPartsCard : Claim7 := { stood := { row := signPartsRow, standIns := [], harness := (true, "f792c37039a3b4f6fafaf84751f95a840594154a0b1537d6e07e53e9a27be61e"), looks := false }, kinds := [], alts := [], laidByText := true, laidKinds := [.data, .data], laidTests := true, laidLooks := .later }
def SignPartsCardSaid : Prop := Claim7.holds Tryd.pinned (.plain (OpenSpec.ofChange signPartsSpec)) signPartsCard

/-- THE TIED CARD OF 'tactuslaw08.SignSame'. -/
def signSameCard : Claim7 := { stood := { row := signSameRow, standIns := [], harness := (true, "f792c37039a3b4f6fafaf84751f95a840594154a0b1537d6e07e53e9a27be61e"), looks := false }, kinds := [], alts := [], laidByText := true, laidKinds := [.data, .data], laidTests := true, laidLooks := .later }
def SignSameCardSaid : Prop := Claim7.holds Tryd.pinned (.plain (OpenSpec.ofChange signSameSpec)) signSameCard

/-- THE TIED CARD OF 'tactuslaw08.SignKnown'. -/
def signKnownCard : Claim7 := { stood := { row := signKnownRow, standIns := [], harness := (true, "f792c37039a3b4f6fafaf84751f95a840594154a0b1537d6e07e53e9a27be61e"), looks := false }, kinds := [], alts := [], laidByText := true, laidKinds := [.data, .data], laidTests := true, laidLooks := .later }
def SignKnownCardSaid : Prop := Claim7.holds Tryd.pinned (.plain (OpenSpec.ofChange signKnownSpec)) signKnownCard

/-- THE TIED CARD OF 'tactuslaw08.SignCounts'. -/
def signCountsCard : Claim7 := { stood := { row := signCountsRow, standIns := [], harness := (true, "f792c37039a3b4f6fafaf84751f95a840594154a0b1537d6e07e53e9a27be61e"), looks := false }, kinds := [], alts := [], laidByText := true, laidKinds := [.data, .data], laidTests := true, laidLooks := .later }
def SignCountsCardSaid : Prop := Claim7.holds Tryd.pinned (.plain (OpenSpec.ofChange signCountsSpec)) signCountsCard

/-- THE TIED CARD OF 'tactuslaw08.SignMoved'. -/
def signMovedCard : Claim7 := { stood := { row := signMovedRow, standIns := [], harness := (true, "f792c37039a3b4f6fafaf84751f95a840594154a0b1537d6e07e53e9a27be61e"), looks := false }, kinds := [], alts := [], laidByText := true, laidKinds := [.data, .data], laidTests := true, laidLooks := .later }
def SignMovedCardSaid : Prop := Claim7.holds Tryd.pinned (.plain (OpenSpec.ofChange signMovedSpec)) signMovedCard

/-- THE TIED CARD OF 'tactuslaw08.SignFirst'. -/
def signFirstCard : Claim7 := { stood := { row := signFirstRow, standIns := [], harness := (true, "f792c37039a3b4f6fafaf84751f95a840594154a0b1537d6e07e53e9a27be61e"), looks := false }, kinds := [], alts := [], laidByText := true, laidKinds := [.data, .data], laidTests := true, laidLooks := .later }
def SignFirstCardSaid : Prop := Claim7.holds Tryd.pinned (.plain (OpenSpec.ofChange signFirstSpec)) signFirstCard

/-- THE SECOND FORM's CARD OF 'tactuslaw08.SignOnes'. -/
def signOnesUptoCard : Claim7 := { stood := { row := signOnesUptoRow, standIns := [], harness := (true, "f792c37039a3b4f6fafaf84751f95a840594154a0b1537d6e07e53e9a27be61e"), looks := false }, kinds := [], alts := [], laidByText := true, laidKinds := [.data, .data], laidTests := true, laidLooks := .later }
def SignOnesUptoCardSaid : Prop := Claim7.holds Tryd.pinned (.plain (OpenSpec.upto signOnesSpec)) signOnesUptoCard

/-- THE SECOND FORM's CARD OF 'tactuslaw08.SignParts'. -/
def signPartsUptoCard : Claim7 := { stood := { row := signPartsUptoRow, standIns := [], harness := (true, "f792c37039a3b4f6fafaf84751f95a840594154a0b1537d6e07e53e9a27be61e"), looks := false }, kinds := [], alts := [], laidByText := true, laidKinds := [.data, .data], laidTests := true, laidLooks := .later }
def SignPartsUptoCardSaid : Prop := Claim7.holds Tryd.pinned (.plain (OpenSpec.upto signPartsSpec)) signPartsUptoCard

/-- THE SECOND FORM's CARD OF 'tactuslaw08.SignSame'. -/
def signSameUptoCard : Claim7 := { stood := { row := signSameUptoRow, standIns := [], harness := (true, "f792c37039a3b4f6fafaf84751f95a840594154a0b1537d6e07e53e9a27be61e"), looks := false }, kinds := [], alts := [], laidByText := true, laidKinds := [.data, .data], laidTests := true, laidLooks := .later }
def SignSameUptoCardSaid : Prop := Claim7.holds Tryd.pinned (.plain (OpenSpec.upto signSameSpec)) signSameUptoCard

/-- THE SECOND FORM's CARD OF 'tactuslaw08.SignKnown'. -/
def signKnownUptoCard : Claim7 := { stood := { row := signKnownUptoRow, standIns := [], harness := (true, "f792c37039a3b4f6fafaf84751f95a840594154a0b1537d6e07e53e9a27be61e"), looks := false }, kinds := [], alts := [], laidByText := true, laidKinds := [.data, .data], laidTests := true, laidLooks := .later }
def SignKnownUptoCardSaid : Prop := Claim7.holds Tryd.pinned (.plain (OpenSpec.upto signKnownSpec)) signKnownUptoCard

/-- THE SECOND FORM's CARD OF 'tactuslaw08.SignCounts'. -/
def signCountsUptoCard : Claim7 := { stood := { row := signCountsUptoRow, standIns := [], harness := (true, "f792c37039a3b4f6fafaf84751f95a840594154a0b1537d6e07e53e9a27be61e"), looks := false }, kinds := [], alts := [], laidByText := true, laidKinds := [.data, .data], laidTests := true, laidLooks := .later }
def SignCountsUptoCardSaid : Prop := Claim7.holds Tryd.pinned (.plain (OpenSpec.upto signCountsSpec)) signCountsUptoCard

/-- THE SECOND FORM's CARD OF 'tactuslaw08.SignMoved'. -/
def signMovedUptoCard : Claim7 := { stood := { row := signMovedUptoRow, standIns := [], harness := (true, "f792c37039a3b4f6fafaf84751f95a840594154a0b1537d6e07e53e9a27be61e"), looks := false }, kinds := [], alts := [], laidByText := true, laidKinds := [.data, .data], laidTests := true, laidLooks := .later }
def SignMovedUptoCardSaid : Prop := Claim7.holds Tryd.pinned (.plain (OpenSpec.upto signMovedSpec)) signMovedUptoCard

/-- THE SECOND FORM's CARD OF 'tactuslaw08.SignFirst'. -/
def signFirstUptoCard : Claim7 := { stood := { row := signFirstUptoRow, standIns := [], harness := (true, "f792c37039a3b4f6fafaf84751f95a840594154a0b1537d6e07e53e9a27be61e"), looks := false }, kinds := [], alts := [], laidByText := true, laidKinds := [.data, .data], laidTests := true, laidLooks := .later }
def SignFirstUptoCardSaid : Prop := Claim7.holds Tryd.pinned (.plain (OpenSpec.upto signFirstSpec)) signFirstUptoCard
end Rows
end Go.Proofs.YtcomjcflllfobaaDoor
