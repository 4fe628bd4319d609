/-
  DERIVED. GIVEN WITH THE SEED: THE CARDS: each row of YtpkihehacocbhaaDoorRows.lean that lists a variable, with what it lists TIED to the program's text (the seventh form; the later family's looks); each row that meets fmt, with fmt's text TOLD by the authors' own Lean function (tested against real Go, not proved from fmt's source: count such statements apart). THE CARD IS WHAT COUNTS. Prove the row's statement (the work); the ties are given (YtpkihehacocbhaaDoorTie.lean); close each card by the builder's one call (the guide's Derived/Test/ToyasCard.lean, 'card_holds'). Laid BY PROGRAM, IN A SANDBOX (cutbox-door.mjs). By AI agents, Wed Nov 11 2026. No macro, syntax, notation, axiom, sorry.
-/
import Derived.Test.YtpkihehacocbhaaDoorRows
import GoSem.ClaimSeven
namespace Go.Proofs.YtpkihehacocbhaaDoor
namespace Rows

/-- THE TIED CARD OF 'tactuslaw03.PitchKnown'. -/
def pitchKnownCard : Claim7 := { stood := { row := pitchKnownRow, standIns := [], harness := (true, "e45f45640a6359ae914766203daf40ae34228b2e9da4cb2b3e00015469e7921d"), looks := false }, kinds := [], alts := [], laidByText := true, laidKinds := [.data, .data, .data, .data, .data], laidTests := true, laidLooks := .later }
def PitchKnownCardSaid : Prop := Claim7.holds Tryd.pinned (.plain (OpenSpec.ofChange pitchKnownSpec)) pitchKnownCard

/-- THE TIED CARD OF 'tactuslaw03.PitchCalls'. -/
def pitchCallsCard : Claim7 := { stood := { row := pitchCallsRow, standIns := [], harness := (true, "e45f45640a6359ae914766203daf40ae34228b2e9da4cb2b3e00015469e7921d"), looks := false }, kinds := [], alts := [], laidByText := true, laidKinds := [.data, .data, .data, .data, .data], laidTests := true, laidLooks := .later }
def PitchCallsCardSaid : Prop := Claim7.holds Tryd.pinned (.plain (OpenSpec.ofChange pitchCallsSpec)) pitchCallsCard

/-- THE TIED CARD OF 'tactuslaw03.PitchTexts'. -/
def pitchTextsCard : Claim7 := { stood := { row := pitchTextsRow, standIns := [], harness := (true, "e45f45640a6359ae914766203daf40ae34228b2e9da4cb2b3e00015469e7921d"), looks := false }, kinds := [], alts := [], laidByText := true, laidKinds := [.data, .data, .data, .data, .data], laidTests := true, laidLooks := .later }
def PitchTextsCardSaid : Prop := Claim7.holds Tryd.pinned (.plain (OpenSpec.ofChange pitchTextsSpec)) pitchTextsCard

/-- THE TIED CARD OF 'tactuslaw03.PitchBack'. -/
def pitchBackCard : Claim7 := { stood := { row := pitchBackRow, standIns := [], harness := (true, "e45f45640a6359ae914766203daf40ae34228b2e9da4cb2b3e00015469e7921d"), looks := false }, kinds := [], alts := [], laidByText := true, laidKinds := [.data, .data, .data, .data, .data], laidTests := true, laidLooks := .later }
def PitchBackCardSaid : Prop := Claim7.holds Tryd.pinned (.plain (OpenSpec.ofChange pitchBackSpec)) pitchBackCard

/-- THE TIED CARD OF 'tactuslaw03.PitchMoves'. -/
def pitchMovesCard : Claim7 := { stood := { row := pitchMovesRow, standIns := [], harness := (true, "e45f45640a6359ae914766203daf40ae34228b2e9da4cb2b3e00015469e7921d"), looks := false }, kinds := [], alts := [], laidByText := true, laidKinds := [.data, .data, .data, .data, .data], laidTests := true, laidLooks := .later }
def PitchMovesCardSaid : Prop := Claim7.holds Tryd.pinned (.plain (OpenSpec.ofChange pitchMovesSpec)) pitchMovesCard

/-- THE TIED CARD OF 'tactuslaw03.PitchMirrors'. -/
def pitchMirrorsCard : Claim7 := { stood := { row := pitchMirrorsRow, standIns := [], harness := (true, "e45f45640a6359ae914766203daf40ae34228b2e9da4cb2b3e00015469e7921d"), looks := false }, kinds := [], alts := [], laidByText := true, laidKinds := [.data, .data, .data, .data, .data], laidTests := true, laidLooks := .later }
def PitchMirrorsCardSaid : Prop := Claim7.holds Tryd.pinned (.plain (OpenSpec.ofChange pitchMirrorsSpec)) pitchMirrorsCard

/-- THE TIED CARD OF 'tactuslaw03.PitchAdds'. -/
def pitchAddsCard : Claim7 := { stood := { row := pitchAddsRow, standIns := [], harness := (true, "e45f45640a6359ae914766203daf40ae34228b2e9da4cb2b3e00015469e7921d"), looks := false }, kinds := [], alts := [], laidByText := true, laidKinds := [.data, .data, .data, .data, .data], laidTests := true, laidLooks := .later }
def PitchAddsCardSaid : Prop := Claim7.holds Tryd.pinned (.plain (OpenSpec.ofChange pitchAddsSpec)) pitchAddsCard

/-- THE SECOND FORM's CARD OF 'tactuslaw03.PitchKnown'. -/
def pitchKnownUptoCard : Claim7 := { stood := { row := pitchKnownUptoRow, standIns := [], harness := (true, "e45f45640a6359ae914766203daf40ae34228b2e9da4cb2b3e00015469e7921d"), looks := false }, kinds := [], alts := [], laidByText := true, laidKinds := [.data, .data, .data, .data, .data], laidTests := true, laidLooks := .later }
def PitchKnownUptoCardSaid : Prop := Claim7.holds Tryd.pinned (.plain (OpenSpec.upto pitchKnownSpec)) pitchKnownUptoCard

/-- THE SECOND FORM's CARD OF 'tactuslaw03.PitchCalls'. -/
def pitchCallsUptoCard : Claim7 := { stood := { row := pitchCallsUptoRow, standIns := [], harness := (true, "e45f45640a6359ae914766203daf40ae34228b2e9da4cb2b3e00015469e7921d"), looks := false }, kinds := [], alts := [], laidByText := true, laidKinds := [.data, .data, .data, .data, .data], laidTests := true, laidLooks := .later }
def PitchCallsUptoCardSaid : Prop := Claim7.holds Tryd.pinned (.plain (OpenSpec.upto pitchCallsSpec)) pitchCallsUptoCard

/-- THE SECOND FORM's CARD OF 'tactuslaw03.PitchTexts'. -/
def pitchTextsUptoCard : Claim7 := { stood := { row := pitchTextsUptoRow, standIns := [], harness := (true, "e45f45640a6359ae914766203daf40ae34228b2e9da4cb2b3e00015469e7921d"), looks := false }, kinds := [], alts := [], laidByText := true, laidKinds := [.data, .data, .data, .data, .data], laidTests := true, laidLooks := .later }
def PitchTextsUptoCardSaid : Prop := Claim7.holds Tryd.pinned (.plain (OpenSpec.upto pitchTextsSpec)) pitchTextsUptoCard

/-- THE SECOND FORM's CARD OF 'tactuslaw03.PitchBack'. -/
def pitchBackUptoCard : Claim7 := { stood := { row := pitchBackUptoRow, standIns := [], harness := (true, "e45f45640a6359ae914766203daf40ae34228b2e9da4cb2b3e00015469e7921d"), looks := false }, kinds := [], alts := [], laidByText := true, laidKinds := [.data, .data, .data, .data, .data], laidTests := true, laidLooks := .later }
def PitchBackUptoCardSaid : Prop := Claim7.holds Tryd.pinned (.plain (OpenSpec.upto pitchBackSpec)) pitchBackUptoCard

/-- THE SECOND FORM's CARD OF 'tactuslaw03.PitchMoves'. -/
def pitchMovesUptoCard : Claim7 := { stood := { row := pitchMovesUptoRow, standIns := [], harness := (true, "e45f45640a6359ae914766203daf40ae34228b2e9da4cb2b3e00015469e7921d"), looks := false }, kinds := [], alts := [], laidByText := true, laidKinds := [.data, .data, .data, .data, .data], laidTests := true, laidLooks := .later }
def PitchMovesUptoCardSaid : Prop := Claim7.holds Tryd.pinned (.plain (OpenSpec.upto pitchMovesSpec)) pitchMovesUptoCard

/-- THE SECOND FORM's CARD OF 'tactuslaw03.PitchMirrors'. -/
def pitchMirrorsUptoCard : Claim7 := { stood := { row := pitchMirrorsUptoRow, standIns := [], harness := (true, "e45f45640a6359ae914766203daf40ae34228b2e9da4cb2b3e00015469e7921d"), looks := false }, kinds := [], alts := [], laidByText := true, laidKinds := [.data, .data, .data, .data, .data], laidTests := true, laidLooks := .later }
def PitchMirrorsUptoCardSaid : Prop := Claim7.holds Tryd.pinned (.plain (OpenSpec.upto pitchMirrorsSpec)) pitchMirrorsUptoCard

/-- THE SECOND FORM's CARD OF 'tactuslaw03.PitchAdds'. -/
def pitchAddsUptoCard : Claim7 := { stood := { row := pitchAddsUptoRow, standIns := [], harness := (true, "e45f45640a6359ae914766203daf40ae34228b2e9da4cb2b3e00015469e7921d"), looks := false }, kinds := [], alts := [], laidByText := true, laidKinds := [.data, .data, .data, .data, .data], laidTests := true, laidLooks := .later }
def PitchAddsUptoCardSaid : Prop := Claim7.holds Tryd.pinned (.plain (OpenSpec.upto pitchAddsSpec)) pitchAddsUptoCard
end Rows
end Go.Proofs.YtpkihehacocbhaaDoor
