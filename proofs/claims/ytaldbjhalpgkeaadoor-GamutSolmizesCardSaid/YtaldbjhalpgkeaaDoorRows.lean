/-
  NARROWER THAN 'FOR EVERY INPUT', by the rows' own cells (each row's printed sentence says how): GamutPlaces: laid · GamutSolmizes: laid · GamutMutations: laid · GamutKnown: laid · GamutBack: laid · GamutFewest: laid · GamutJoins: laid · GamutOctave: laid.
  DERIVED. THE GIVEN ROWS OF THIS SEAT. 8 by the template 'for every input the law returns true; each argument reads behind the call as it read before'; 0 by the template 'total and deterministic' (their statements: YtaldbjhalpgkeaaDoorTotals.lean).
  GIVEN WITH THE SEED: the statements are not yours to turn. If you find one false, say at which input.
  Laid BY PROGRAM, IN A SANDBOX (cutbox-rows.mjs): the forced cells as the released guide's own fill.sh prints them over the translation 3e287e981ee3568d… (all of the seat's roots in one cut). By AI agents, Wed Nov 11 2026. No macro, syntax, notation, axiom, sorry.
-/
import Derived.Test.YtaldbjhalpgkeaaDoorChecked
import GoSem.Claim
import GoSem.ClaimJoined
import GoSem.ClaimMapViews
import Derived.JoinedTies
import Derived.KernelRfl
namespace Go.Proofs.YtaldbjhalpgkeaaDoor
/- THE CELL 'sum', in the pinned program and in every row, IS THE sha256 OF THE DUMP (.gsa) THAT YtaldbjhalpgkeaaDoorProg.lean LOADS. Nothing in Lean hashes anything: it is a label: what it is worth is what the hold of that sum in a sandbox is worth. -/
noncomputable def Tryd.pinned : Pinned := { name := "ytaldbjhalpgkeaadoor", sum := "3e287e981ee3568d21d754882092093182df5a44318ed8f2722153705f6fc55e", checked := Tryd.checked }
namespace Rows
def none {H : Type} : Left H := { results := [], args := [] }

/- WHAT THE LISTED PACKAGE-LEVEL VARIABLES READ AS WHEN THE CALL BEGINS. Each datum BY PROGRAM (the guide's laid-datum.mjs) off the statement by which the dump's own 'gosem.cut.vars' lays the variable. In a bare row this is a premise. The card (YtaldbjhalpgkeaaDoorCards.lean) ties it to the program's text. -/
def laid_tactus_gamut_beginnings {H : Type} : DataW H := .agg [.lit (.int .i64 0), .lit (.int .i64 3), .lit (.int .i64 6), .lit (.int .i64 7), .lit (.int .i64 10), .lit (.int .i64 13), .lit (.int .i64 14)]
def laid_tactus_gamut_syllableWords {H : Type} : DataW H := .agg [.lit (.string [117, 116]), .lit (.string [114, 101]), .lit (.string [109, 105]), .lit (.string [102, 97]), .lit (.string [115, 111, 108]), .lit (.string [108, 97])]

/-- 'tactuslaw04.GamutPlaces': WHATEVER THE INPUT: true; the input reads as it did. -/
def gamutPlacesSpec : ChangeSpec := { name := "gamutPlaces", fn := fun _ => fun
  | [d1, d2, d3] => { results := [.lit (.bool true)], args := [d1, d2, d3] }
  | _ => none }
def gamutPlacesRow : OpenClaim := { program := "ytaldbjhalpgkeaadoor", sum := "3e287e981ee3568d21d754882092093182df5a44318ed8f2722153705f6fc55e", func := "tactus/tactuslaw04.GamutPlaces", spec := "gamutPlaces", inPlace := ["internal/abi.NoEscape", "internal/bytealg.MakeNoZero"], unfollowed := true, recurses := true, named := ["tactus/gamut.beginnings", "tactus/gamut.syllableWords"], apart := false, laid := [("tactus/gamut.beginnings", laid_tactus_gamut_beginnings), ("tactus/gamut.syllableWords", laid_tactus_gamut_syllableWords)] }
def GamutPlacesSaid : Prop := gamutPlacesRow.holds Tryd.pinned (OpenSpec.ofChange gamutPlacesSpec)

/-- ITS FALSE NEIGHBOUR: 'it returns false'. Refute it at one input. -/
def gamutPlacesWrong : ChangeSpec := { name := "gamutPlaces", fn := fun _ => fun
  | [d1, d2, d3] => { results := [.lit (.bool false)], args := [d1, d2, d3] }
  | _ => none }
def GamutPlacesWrongFalsely : Prop := gamutPlacesRow.holds Tryd.pinned (OpenSpec.ofChange gamutPlacesWrong)

/-- 'tactuslaw04.GamutSolmizes': WHATEVER THE INPUT: true; the input reads as it did. -/
def gamutSolmizesSpec : ChangeSpec := { name := "gamutSolmizes", fn := fun _ => fun
  | [d] => { results := [.lit (.bool true)], args := [d] }
  | _ => none }
def gamutSolmizesRow : OpenClaim := { program := "ytaldbjhalpgkeaadoor", sum := "3e287e981ee3568d21d754882092093182df5a44318ed8f2722153705f6fc55e", func := "tactus/tactuslaw04.GamutSolmizes", spec := "gamutSolmizes", inPlace := ["internal/abi.NoEscape", "internal/bytealg.MakeNoZero"], unfollowed := true, recurses := true, named := ["tactus/gamut.beginnings", "tactus/gamut.syllableWords"], apart := false, laid := [("tactus/gamut.beginnings", laid_tactus_gamut_beginnings), ("tactus/gamut.syllableWords", laid_tactus_gamut_syllableWords)] }
def GamutSolmizesSaid : Prop := gamutSolmizesRow.holds Tryd.pinned (OpenSpec.ofChange gamutSolmizesSpec)

/-- ITS FALSE NEIGHBOUR: 'it returns false'. Refute it at one input. -/
def gamutSolmizesWrong : ChangeSpec := { name := "gamutSolmizes", fn := fun _ => fun
  | [d] => { results := [.lit (.bool false)], args := [d] }
  | _ => none }
def GamutSolmizesWrongFalsely : Prop := gamutSolmizesRow.holds Tryd.pinned (OpenSpec.ofChange gamutSolmizesWrong)

/-- 'tactuslaw04.GamutMutations': WHATEVER THE INPUT: true; the input reads as it did. -/
def gamutMutationsSpec : ChangeSpec := { name := "gamutMutations", fn := fun _ => fun
  | [d] => { results := [.lit (.bool true)], args := [d] }
  | _ => none }
def gamutMutationsRow : OpenClaim := { program := "ytaldbjhalpgkeaadoor", sum := "3e287e981ee3568d21d754882092093182df5a44318ed8f2722153705f6fc55e", func := "tactus/tactuslaw04.GamutMutations", spec := "gamutMutations", inPlace := ["internal/abi.NoEscape", "internal/bytealg.MakeNoZero"], unfollowed := true, recurses := true, named := ["tactus/gamut.beginnings", "tactus/gamut.syllableWords"], apart := false, laid := [("tactus/gamut.beginnings", laid_tactus_gamut_beginnings), ("tactus/gamut.syllableWords", laid_tactus_gamut_syllableWords)] }
def GamutMutationsSaid : Prop := gamutMutationsRow.holds Tryd.pinned (OpenSpec.ofChange gamutMutationsSpec)

/-- ITS FALSE NEIGHBOUR: 'it returns false'. Refute it at one input. -/
def gamutMutationsWrong : ChangeSpec := { name := "gamutMutations", fn := fun _ => fun
  | [d] => { results := [.lit (.bool false)], args := [d] }
  | _ => none }
def GamutMutationsWrongFalsely : Prop := gamutMutationsRow.holds Tryd.pinned (OpenSpec.ofChange gamutMutationsWrong)

/-- 'tactuslaw04.GamutKnown': WHATEVER THE INPUT: true; the input reads as it did. -/
def gamutKnownSpec : ChangeSpec := { name := "gamutKnown", fn := fun _ => fun
  | [] => { results := [.lit (.bool true)], args := [] }
  | _ => none }
def gamutKnownRow : OpenClaim := { program := "ytaldbjhalpgkeaadoor", sum := "3e287e981ee3568d21d754882092093182df5a44318ed8f2722153705f6fc55e", func := "tactus/tactuslaw04.GamutKnown", spec := "gamutKnown", inPlace := ["internal/abi.NoEscape", "internal/bytealg.MakeNoZero"], unfollowed := true, recurses := true, named := ["tactus/gamut.syllableWords", "tactus/gamut.beginnings"], apart := false, laid := [("tactus/gamut.beginnings", laid_tactus_gamut_beginnings), ("tactus/gamut.syllableWords", laid_tactus_gamut_syllableWords)] }
def GamutKnownSaid : Prop := gamutKnownRow.holds Tryd.pinned (OpenSpec.ofChange gamutKnownSpec)

/-- ITS FALSE NEIGHBOUR: 'it returns false'. Refute it at one input. -/
def gamutKnownWrong : ChangeSpec := { name := "gamutKnown", fn := fun _ => fun
  | [] => { results := [.lit (.bool false)], args := [] }
  | _ => none }
def GamutKnownWrongFalsely : Prop := gamutKnownRow.holds Tryd.pinned (OpenSpec.ofChange gamutKnownWrong)

/-- 'tactuslaw04.GamutBack': WHATEVER THE INPUT: true; the input reads as it did. -/
def gamutBackSpec : ChangeSpec := { name := "gamutBack", fn := fun _ => fun
  | [d] => { results := [.lit (.bool true)], args := [d] }
  | _ => none }
def gamutBackRow : OpenClaim := { program := "ytaldbjhalpgkeaadoor", sum := "3e287e981ee3568d21d754882092093182df5a44318ed8f2722153705f6fc55e", func := "tactus/tactuslaw04.GamutBack", spec := "gamutBack", inPlace := ["internal/abi.NoEscape", "internal/bytealg.MakeNoZero"], unfollowed := true, recurses := true, named := ["tactus/gamut.syllableWords", "tactus/gamut.beginnings"], apart := false, laid := [("tactus/gamut.beginnings", laid_tactus_gamut_beginnings), ("tactus/gamut.syllableWords", laid_tactus_gamut_syllableWords)] }
def GamutBackSaid : Prop := gamutBackRow.holds Tryd.pinned (OpenSpec.ofChange gamutBackSpec)

/-- ITS FALSE NEIGHBOUR: 'it returns false'. Refute it at one input. -/
def gamutBackWrong : ChangeSpec := { name := "gamutBack", fn := fun _ => fun
  | [d] => { results := [.lit (.bool false)], args := [d] }
  | _ => none }
def GamutBackWrongFalsely : Prop := gamutBackRow.holds Tryd.pinned (OpenSpec.ofChange gamutBackWrong)

/-- 'tactuslaw04.GamutFewest': WHATEVER THE INPUT: true; the input reads as it did. -/
def gamutFewestSpec : ChangeSpec := { name := "gamutFewest", fn := fun _ => fun
  | [d] => { results := [.lit (.bool true)], args := [d] }
  | _ => none }
def gamutFewestRow : OpenClaim := { program := "ytaldbjhalpgkeaadoor", sum := "3e287e981ee3568d21d754882092093182df5a44318ed8f2722153705f6fc55e", func := "tactus/tactuslaw04.GamutFewest", spec := "gamutFewest", inPlace := ["internal/abi.NoEscape", "internal/bytealg.MakeNoZero"], unfollowed := true, recurses := true, named := ["tactus/gamut.syllableWords", "tactus/gamut.beginnings"], apart := false, laid := [("tactus/gamut.beginnings", laid_tactus_gamut_beginnings), ("tactus/gamut.syllableWords", laid_tactus_gamut_syllableWords)] }
def GamutFewestSaid : Prop := gamutFewestRow.holds Tryd.pinned (OpenSpec.ofChange gamutFewestSpec)

/-- ITS FALSE NEIGHBOUR: 'it returns false'. Refute it at one input. -/
def gamutFewestWrong : ChangeSpec := { name := "gamutFewest", fn := fun _ => fun
  | [d] => { results := [.lit (.bool false)], args := [d] }
  | _ => none }
def GamutFewestWrongFalsely : Prop := gamutFewestRow.holds Tryd.pinned (OpenSpec.ofChange gamutFewestWrong)

/-- 'tactuslaw04.GamutJoins': WHATEVER THE INPUT: true; the input reads as it did. -/
def gamutJoinsSpec : ChangeSpec := { name := "gamutJoins", fn := fun _ => fun
  | [d1, d2] => { results := [.lit (.bool true)], args := [d1, d2] }
  | _ => none }
def gamutJoinsRow : OpenClaim := { program := "ytaldbjhalpgkeaadoor", sum := "3e287e981ee3568d21d754882092093182df5a44318ed8f2722153705f6fc55e", func := "tactus/tactuslaw04.GamutJoins", spec := "gamutJoins", inPlace := ["internal/abi.NoEscape", "internal/bytealg.MakeNoZero"], unfollowed := true, recurses := true, named := ["tactus/gamut.syllableWords", "tactus/gamut.beginnings"], apart := false, laid := [("tactus/gamut.beginnings", laid_tactus_gamut_beginnings), ("tactus/gamut.syllableWords", laid_tactus_gamut_syllableWords)] }
def GamutJoinsSaid : Prop := gamutJoinsRow.holds Tryd.pinned (OpenSpec.ofChange gamutJoinsSpec)

/-- ITS FALSE NEIGHBOUR: 'it returns false'. Refute it at one input. -/
def gamutJoinsWrong : ChangeSpec := { name := "gamutJoins", fn := fun _ => fun
  | [d1, d2] => { results := [.lit (.bool false)], args := [d1, d2] }
  | _ => none }
def GamutJoinsWrongFalsely : Prop := gamutJoinsRow.holds Tryd.pinned (OpenSpec.ofChange gamutJoinsWrong)

/-- 'tactuslaw04.GamutOctave': WHATEVER THE INPUT: true; the input reads as it did. -/
def gamutOctaveSpec : ChangeSpec := { name := "gamutOctave", fn := fun _ => fun
  | [d] => { results := [.lit (.bool true)], args := [d] }
  | _ => none }
def gamutOctaveRow : OpenClaim := { program := "ytaldbjhalpgkeaadoor", sum := "3e287e981ee3568d21d754882092093182df5a44318ed8f2722153705f6fc55e", func := "tactus/tactuslaw04.GamutOctave", spec := "gamutOctave", inPlace := ["internal/abi.NoEscape", "internal/bytealg.MakeNoZero"], unfollowed := true, recurses := true, named := ["tactus/gamut.syllableWords", "tactus/gamut.beginnings"], apart := false, laid := [("tactus/gamut.beginnings", laid_tactus_gamut_beginnings), ("tactus/gamut.syllableWords", laid_tactus_gamut_syllableWords)] }
def GamutOctaveSaid : Prop := gamutOctaveRow.holds Tryd.pinned (OpenSpec.ofChange gamutOctaveSpec)

/-- ITS FALSE NEIGHBOUR: 'it returns false'. Refute it at one input. -/
def gamutOctaveWrong : ChangeSpec := { name := "gamutOctave", fn := fun _ => fun
  | [d] => { results := [.lit (.bool false)], args := [d] }
  | _ => none }
def GamutOctaveWrongFalsely : Prop := gamutOctaveRow.holds Tryd.pinned (OpenSpec.ofChange gamutOctaveWrong)

/- THE SECOND FORM. 'bulk': how many values and letters a reading holds, each counted each time it is reached (what is shared counts as often as it is met; a slice's spare places count too). A statement '..UptoSaid' is the law's where the arguments, and the package variables that the reading takes, are together of bulk at most 1048576: NARROWER than '..Said'. Prove '..Said' where nothing that the law and all that it calls make is longer than what came in: it says more and counts as full. Else prove '..UptoSaid'. A law counts once. -/
mutual
def uptoBulk {H : Type} : DataW H → Nat
  | .lit (.string bytes) => bytes.length + 1
  | .lit _ => 1
  | .nil => 1
  | .ptr d => uptoBulk d + 1
  | .slice elems spare => uptoBulkAll elems + uptoBulkAll spare + 1
  | .agg parts => uptoBulkAll parts + 1
  | .iface _ d => uptoBulk d + 1
  | .map entries => uptoBulkEntries entries + 1
  | .held _ => 1
def uptoBulkAll {H : Type} : List (DataW H) → Nat
  | [] => 0
  | d :: r => uptoBulk d + uptoBulkAll r
def uptoBulkEntries {H : Type} : List (Lit × DataW H) → Nat
  | [] => 0
  | x :: r => uptoBulkEntry x + uptoBulkEntries r
def uptoBulkEntry {H : Type} : Lit × DataW H → Nat
  | (.string bytes, d) => bytes.length + uptoBulk d + 1
  | (_, d) => uptoBulk d + 1
 end
def uptoSmall : (H : Type) → List (DataW H) → Bool := fun _ ds => decide (uptoBulkAll ds ≤ 1048576)
def OpenSpec.upto (s : _root_.Go.ChangeSpec) : _root_.Go.OpenSpec := { _root_.Go.OpenSpec.ofChange s with cond := some uptoSmall }

/-- 'tactuslaw04.GamutPlaces', WHERE WHAT IT READS IS OF BULK AT MOST 1048576: true; the input reads as it did. -/
def gamutPlacesUptoRow : OpenClaim := { program := "ytaldbjhalpgkeaadoor", sum := "3e287e981ee3568d21d754882092093182df5a44318ed8f2722153705f6fc55e", func := "tactus/tactuslaw04.GamutPlaces", spec := "gamutPlaces", inPlace := ["internal/abi.NoEscape", "internal/bytealg.MakeNoZero"], unfollowed := true, recurses := true, named := ["tactus/gamut.beginnings", "tactus/gamut.syllableWords"], apart := false, laid := [("tactus/gamut.beginnings", laid_tactus_gamut_beginnings), ("tactus/gamut.syllableWords", laid_tactus_gamut_syllableWords)], narrowed := true }
def GamutPlacesUptoSaid : Prop := gamutPlacesUptoRow.holds Tryd.pinned (OpenSpec.upto gamutPlacesSpec)

/-- 'tactuslaw04.GamutSolmizes', WHERE WHAT IT READS IS OF BULK AT MOST 1048576: true; the input reads as it did. -/
def gamutSolmizesUptoRow : OpenClaim := { program := "ytaldbjhalpgkeaadoor", sum := "3e287e981ee3568d21d754882092093182df5a44318ed8f2722153705f6fc55e", func := "tactus/tactuslaw04.GamutSolmizes", spec := "gamutSolmizes", inPlace := ["internal/abi.NoEscape", "internal/bytealg.MakeNoZero"], unfollowed := true, recurses := true, named := ["tactus/gamut.beginnings", "tactus/gamut.syllableWords"], apart := false, laid := [("tactus/gamut.beginnings", laid_tactus_gamut_beginnings), ("tactus/gamut.syllableWords", laid_tactus_gamut_syllableWords)], narrowed := true }
def GamutSolmizesUptoSaid : Prop := gamutSolmizesUptoRow.holds Tryd.pinned (OpenSpec.upto gamutSolmizesSpec)

/-- 'tactuslaw04.GamutMutations', WHERE WHAT IT READS IS OF BULK AT MOST 1048576: true; the input reads as it did. -/
def gamutMutationsUptoRow : OpenClaim := { program := "ytaldbjhalpgkeaadoor", sum := "3e287e981ee3568d21d754882092093182df5a44318ed8f2722153705f6fc55e", func := "tactus/tactuslaw04.GamutMutations", spec := "gamutMutations", inPlace := ["internal/abi.NoEscape", "internal/bytealg.MakeNoZero"], unfollowed := true, recurses := true, named := ["tactus/gamut.beginnings", "tactus/gamut.syllableWords"], apart := false, laid := [("tactus/gamut.beginnings", laid_tactus_gamut_beginnings), ("tactus/gamut.syllableWords", laid_tactus_gamut_syllableWords)], narrowed := true }
def GamutMutationsUptoSaid : Prop := gamutMutationsUptoRow.holds Tryd.pinned (OpenSpec.upto gamutMutationsSpec)

/-- 'tactuslaw04.GamutKnown', WHERE WHAT IT READS IS OF BULK AT MOST 1048576: true; the input reads as it did. -/
def gamutKnownUptoRow : OpenClaim := { program := "ytaldbjhalpgkeaadoor", sum := "3e287e981ee3568d21d754882092093182df5a44318ed8f2722153705f6fc55e", func := "tactus/tactuslaw04.GamutKnown", spec := "gamutKnown", inPlace := ["internal/abi.NoEscape", "internal/bytealg.MakeNoZero"], unfollowed := true, recurses := true, named := ["tactus/gamut.syllableWords", "tactus/gamut.beginnings"], apart := false, laid := [("tactus/gamut.beginnings", laid_tactus_gamut_beginnings), ("tactus/gamut.syllableWords", laid_tactus_gamut_syllableWords)], narrowed := true }
def GamutKnownUptoSaid : Prop := gamutKnownUptoRow.holds Tryd.pinned (OpenSpec.upto gamutKnownSpec)

/-- 'tactuslaw04.GamutBack', WHERE WHAT IT READS IS OF BULK AT MOST 1048576: true; the input reads as it did. -/
def gamutBackUptoRow : OpenClaim := { program := "ytaldbjhalpgkeaadoor", sum := "3e287e981ee3568d21d754882092093182df5a44318ed8f2722153705f6fc55e", func := "tactus/tactuslaw04.GamutBack", spec := "gamutBack", inPlace := ["internal/abi.NoEscape", "internal/bytealg.MakeNoZero"], unfollowed := true, recurses := true, named := ["tactus/gamut.syllableWords", "tactus/gamut.beginnings"], apart := false, laid := [("tactus/gamut.beginnings", laid_tactus_gamut_beginnings), ("tactus/gamut.syllableWords", laid_tactus_gamut_syllableWords)], narrowed := true }
def GamutBackUptoSaid : Prop := gamutBackUptoRow.holds Tryd.pinned (OpenSpec.upto gamutBackSpec)

/-- 'tactuslaw04.GamutFewest', WHERE WHAT IT READS IS OF BULK AT MOST 1048576: true; the input reads as it did. -/
def gamutFewestUptoRow : OpenClaim := { program := "ytaldbjhalpgkeaadoor", sum := "3e287e981ee3568d21d754882092093182df5a44318ed8f2722153705f6fc55e", func := "tactus/tactuslaw04.GamutFewest", spec := "gamutFewest", inPlace := ["internal/abi.NoEscape", "internal/bytealg.MakeNoZero"], unfollowed := true, recurses := true, named := ["tactus/gamut.syllableWords", "tactus/gamut.beginnings"], apart := false, laid := [("tactus/gamut.beginnings", laid_tactus_gamut_beginnings), ("tactus/gamut.syllableWords", laid_tactus_gamut_syllableWords)], narrowed := true }
def GamutFewestUptoSaid : Prop := gamutFewestUptoRow.holds Tryd.pinned (OpenSpec.upto gamutFewestSpec)

/-- 'tactuslaw04.GamutJoins', WHERE WHAT IT READS IS OF BULK AT MOST 1048576: true; the input reads as it did. -/
def gamutJoinsUptoRow : OpenClaim := { program := "ytaldbjhalpgkeaadoor", sum := "3e287e981ee3568d21d754882092093182df5a44318ed8f2722153705f6fc55e", func := "tactus/tactuslaw04.GamutJoins", spec := "gamutJoins", inPlace := ["internal/abi.NoEscape", "internal/bytealg.MakeNoZero"], unfollowed := true, recurses := true, named := ["tactus/gamut.syllableWords", "tactus/gamut.beginnings"], apart := false, laid := [("tactus/gamut.beginnings", laid_tactus_gamut_beginnings), ("tactus/gamut.syllableWords", laid_tactus_gamut_syllableWords)], narrowed := true }
def GamutJoinsUptoSaid : Prop := gamutJoinsUptoRow.holds Tryd.pinned (OpenSpec.upto gamutJoinsSpec)

/-- 'tactuslaw04.GamutOctave', WHERE WHAT IT READS IS OF BULK AT MOST 1048576: true; the input reads as it did. -/
def gamutOctaveUptoRow : OpenClaim := { program := "ytaldbjhalpgkeaadoor", sum := "3e287e981ee3568d21d754882092093182df5a44318ed8f2722153705f6fc55e", func := "tactus/tactuslaw04.GamutOctave", spec := "gamutOctave", inPlace := ["internal/abi.NoEscape", "internal/bytealg.MakeNoZero"], unfollowed := true, recurses := true, named := ["tactus/gamut.syllableWords", "tactus/gamut.beginnings"], apart := false, laid := [("tactus/gamut.beginnings", laid_tactus_gamut_beginnings), ("tactus/gamut.syllableWords", laid_tactus_gamut_syllableWords)], narrowed := true }
def GamutOctaveUptoSaid : Prop := gamutOctaveUptoRow.holds Tryd.pinned (OpenSpec.upto gamutOctaveSpec)

end Rows
end Go.Proofs.YtaldbjhalpgkeaaDoor
