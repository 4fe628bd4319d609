/-
  NARROWER THAN 'FOR EVERY INPUT', by the rows' own cells (each row's printed sentence says how): ClefPlaces: laid · ClefPitches: laid · ClefBest: laid · ClefKnown: laid · ClefBack: laid · ClefMoved: laid · ClefFewest: laid.
  DERIVED. THE GIVEN ROWS OF THIS SEAT. 7 by the template 'for every input the law returns true; each argument reads behind the call as it read before'; 0 by the template 'total and deterministic' (their statements: YteomimeagloofaaDoorTotals.lean).
  GIVEN WITH THE SEED: the statements are not yours to turn. If you find one false, say at which input.
  Laid BY PROGRAM, IN A SANDBOX (cutbox-rows.mjs): the forced cells as the released guide's own fill.sh prints them over the translation 25520cad1c3896ab… (all of the seat's roots in one cut). By AI agents, Wed Nov 11 2026. No macro, syntax, notation, axiom, sorry.
-/
import Derived.Test.YteomimeagloofaaDoorChecked
import GoSem.Claim
import GoSem.ClaimJoined
import GoSem.ClaimMapViews
import Derived.JoinedTies
import Derived.KernelRfl
namespace Go.Proofs.YteomimeagloofaaDoor
/- THE CELL 'sum', in the pinned program and in every row, IS THE sha256 OF THE DUMP (.gsa) THAT YteomimeagloofaaDoorProg.lean LOADS. Nothing in Lean hashes anything: it is a label: what it is worth is what the hold of that sum in a sandbox is worth. -/
noncomputable def Tryd.pinned : Pinned := { name := "yteomimeagloofaadoor", sum := "25520cad1c3896abbe569d427bcc983a9d7beab5a13667e4d26ea61ff1775c5f", checked := Tryd.checked }
namespace Rows
def none {H : Type} : Left H := { results := [], args := [] }

/- WHAT THE LISTED PACKAGE-LEVEL VARIABLES READ AS WHEN THE CALL BEGINS. Each datum BY PROGRAM (the guide's laid-datum.mjs) off the statement by which the dump's own 'gosem.cut.vars' lays the variable. In a bare row this is a premise. The card (YteomimeagloofaaDoorCards.lean) ties it to the program's text. -/
def laid_tactus_clef_clefPitches {H : Type} : DataW H := .agg [.agg [.lit (.int .i64 0), .lit (.int .i64 4), .lit (.int .i64 0)], .agg [.lit (.int .i64 3), .lit (.int .i64 3), .lit (.int .i64 0)], .agg [.lit (.int .i64 4), .lit (.int .i64 4), .lit (.int .i64 0)]]
def laid_tactus_clef_keyAlters {H : Type} : DataW H := .agg [.agg [.lit (.int .i64 0), .lit (.int .i64 0), .lit (.int .i64 0)], .agg [.lit (.int .i64 0), .lit (.int .i64 0), .lit (.int .i64 0)], .agg [.lit (.int .i64 0), .lit (.int .i64 0), .lit (.int .i64 (-1))], .agg [.lit (.int .i64 0), .lit (.int .i64 0), .lit (.int .i64 0)], .agg [.lit (.int .i64 0), .lit (.int .i64 0), .lit (.int .i64 0)], .agg [.lit (.int .i64 0), .lit (.int .i64 0), .lit (.int .i64 0)], .agg [.lit (.int .i64 0), .lit (.int .i64 (-1)), .lit (.int .i64 (-1))]]

/-- 'tactuslaw06.ClefPlaces': WHATEVER THE INPUT: true; the input reads as it did. -/
def clefPlacesSpec : ChangeSpec := { name := "clefPlaces", fn := fun _ => fun
  | [d1, d2, d3, d4, d5] => { results := [.lit (.bool true)], args := [d1, d2, d3, d4, d5] }
  | _ => none }
def clefPlacesRow : OpenClaim := { program := "yteomimeagloofaadoor", sum := "25520cad1c3896abbe569d427bcc983a9d7beab5a13667e4d26ea61ff1775c5f", func := "tactus/tactuslaw06.ClefPlaces", spec := "clefPlaces", unfollowed := true, recurses := true, named := ["tactus/clef.keyAlters", "tactus/clef.clefPitches"], apart := false, laid := [("tactus/clef.clefPitches", laid_tactus_clef_clefPitches), ("tactus/clef.keyAlters", laid_tactus_clef_keyAlters)] }
def ClefPlacesSaid : Prop := clefPlacesRow.holds Tryd.pinned (OpenSpec.ofChange clefPlacesSpec)

/-- ITS FALSE NEIGHBOUR: 'it returns false'. Refute it at one input. -/
def clefPlacesWrong : ChangeSpec := { name := "clefPlaces", fn := fun _ => fun
  | [d1, d2, d3, d4, d5] => { results := [.lit (.bool false)], args := [d1, d2, d3, d4, d5] }
  | _ => none }
def ClefPlacesWrongFalsely : Prop := clefPlacesRow.holds Tryd.pinned (OpenSpec.ofChange clefPlacesWrong)

/-- 'tactuslaw06.ClefPitches': WHATEVER THE INPUT: true; the input reads as it did. -/
def clefPitchesSpec : ChangeSpec := { name := "clefPitches", fn := fun _ => fun
  | [d1, d2, d3] => { results := [.lit (.bool true)], args := [d1, d2, d3] }
  | _ => none }
def clefPitchesRow : OpenClaim := { program := "yteomimeagloofaadoor", sum := "25520cad1c3896abbe569d427bcc983a9d7beab5a13667e4d26ea61ff1775c5f", func := "tactus/tactuslaw06.ClefPitches", spec := "clefPitches", unfollowed := true, recurses := true, named := ["tactus/clef.clefPitches", "tactus/clef.keyAlters"], apart := false, laid := [("tactus/clef.clefPitches", laid_tactus_clef_clefPitches), ("tactus/clef.keyAlters", laid_tactus_clef_keyAlters)] }
def ClefPitchesSaid : Prop := clefPitchesRow.holds Tryd.pinned (OpenSpec.ofChange clefPitchesSpec)

/-- ITS FALSE NEIGHBOUR: 'it returns false'. Refute it at one input. -/
def clefPitchesWrong : ChangeSpec := { name := "clefPitches", fn := fun _ => fun
  | [d1, d2, d3] => { results := [.lit (.bool false)], args := [d1, d2, d3] }
  | _ => none }
def ClefPitchesWrongFalsely : Prop := clefPitchesRow.holds Tryd.pinned (OpenSpec.ofChange clefPitchesWrong)

/-- 'tactuslaw06.ClefBest': WHATEVER THE INPUT: true; the input reads as it did. -/
def clefBestSpec : ChangeSpec := { name := "clefBest", fn := fun _ => fun
  | [d1, d2] => { results := [.lit (.bool true)], args := [d1, d2] }
  | _ => none }
def clefBestRow : OpenClaim := { program := "yteomimeagloofaadoor", sum := "25520cad1c3896abbe569d427bcc983a9d7beab5a13667e4d26ea61ff1775c5f", func := "tactus/tactuslaw06.ClefBest", spec := "clefBest", unfollowed := true, recurses := true, named := ["tactus/clef.clefPitches", "tactus/clef.keyAlters"], apart := false, laid := [("tactus/clef.clefPitches", laid_tactus_clef_clefPitches), ("tactus/clef.keyAlters", laid_tactus_clef_keyAlters)] }
def ClefBestSaid : Prop := clefBestRow.holds Tryd.pinned (OpenSpec.ofChange clefBestSpec)

/-- ITS FALSE NEIGHBOUR: 'it returns false'. Refute it at one input. -/
def clefBestWrong : ChangeSpec := { name := "clefBest", fn := fun _ => fun
  | [d1, d2] => { results := [.lit (.bool false)], args := [d1, d2] }
  | _ => none }
def ClefBestWrongFalsely : Prop := clefBestRow.holds Tryd.pinned (OpenSpec.ofChange clefBestWrong)

/-- 'tactuslaw06.ClefKnown': WHATEVER THE INPUT: true; the input reads as it did. -/
def clefKnownSpec : ChangeSpec := { name := "clefKnown", fn := fun _ => fun
  | [] => { results := [.lit (.bool true)], args := [] }
  | _ => none }
def clefKnownRow : OpenClaim := { program := "yteomimeagloofaadoor", sum := "25520cad1c3896abbe569d427bcc983a9d7beab5a13667e4d26ea61ff1775c5f", func := "tactus/tactuslaw06.ClefKnown", spec := "clefKnown", unfollowed := true, recurses := true, named := ["tactus/clef.keyAlters", "tactus/clef.clefPitches"], apart := false, laid := [("tactus/clef.clefPitches", laid_tactus_clef_clefPitches), ("tactus/clef.keyAlters", laid_tactus_clef_keyAlters)] }
def ClefKnownSaid : Prop := clefKnownRow.holds Tryd.pinned (OpenSpec.ofChange clefKnownSpec)

/-- ITS FALSE NEIGHBOUR: 'it returns false'. Refute it at one input. -/
def clefKnownWrong : ChangeSpec := { name := "clefKnown", fn := fun _ => fun
  | [] => { results := [.lit (.bool false)], args := [] }
  | _ => none }
def ClefKnownWrongFalsely : Prop := clefKnownRow.holds Tryd.pinned (OpenSpec.ofChange clefKnownWrong)

/-- 'tactuslaw06.ClefBack': WHATEVER THE INPUT: true; the input reads as it did. -/
def clefBackSpec : ChangeSpec := { name := "clefBack", fn := fun _ => fun
  | [d1, d2, d3, d4] => { results := [.lit (.bool true)], args := [d1, d2, d3, d4] }
  | _ => none }
def clefBackRow : OpenClaim := { program := "yteomimeagloofaadoor", sum := "25520cad1c3896abbe569d427bcc983a9d7beab5a13667e4d26ea61ff1775c5f", func := "tactus/tactuslaw06.ClefBack", spec := "clefBack", unfollowed := true, recurses := true, named := ["tactus/clef.keyAlters", "tactus/clef.clefPitches"], apart := false, laid := [("tactus/clef.clefPitches", laid_tactus_clef_clefPitches), ("tactus/clef.keyAlters", laid_tactus_clef_keyAlters)] }
def ClefBackSaid : Prop := clefBackRow.holds Tryd.pinned (OpenSpec.ofChange clefBackSpec)

/-- ITS FALSE NEIGHBOUR: 'it returns false'. Refute it at one input. -/
def clefBackWrong : ChangeSpec := { name := "clefBack", fn := fun _ => fun
  | [d1, d2, d3, d4] => { results := [.lit (.bool false)], args := [d1, d2, d3, d4] }
  | _ => none }
def ClefBackWrongFalsely : Prop := clefBackRow.holds Tryd.pinned (OpenSpec.ofChange clefBackWrong)

/-- 'tactuslaw06.ClefMoved': WHATEVER THE INPUT: true; the input reads as it did. -/
def clefMovedSpec : ChangeSpec := { name := "clefMoved", fn := fun _ => fun
  | [d1, d2, d3, d4] => { results := [.lit (.bool true)], args := [d1, d2, d3, d4] }
  | _ => none }
def clefMovedRow : OpenClaim := { program := "yteomimeagloofaadoor", sum := "25520cad1c3896abbe569d427bcc983a9d7beab5a13667e4d26ea61ff1775c5f", func := "tactus/tactuslaw06.ClefMoved", spec := "clefMoved", unfollowed := true, recurses := true, named := ["tactus/clef.keyAlters", "tactus/clef.clefPitches"], apart := false, laid := [("tactus/clef.clefPitches", laid_tactus_clef_clefPitches), ("tactus/clef.keyAlters", laid_tactus_clef_keyAlters)] }
def ClefMovedSaid : Prop := clefMovedRow.holds Tryd.pinned (OpenSpec.ofChange clefMovedSpec)

/-- ITS FALSE NEIGHBOUR: 'it returns false'. Refute it at one input. -/
def clefMovedWrong : ChangeSpec := { name := "clefMoved", fn := fun _ => fun
  | [d1, d2, d3, d4] => { results := [.lit (.bool false)], args := [d1, d2, d3, d4] }
  | _ => none }
def ClefMovedWrongFalsely : Prop := clefMovedRow.holds Tryd.pinned (OpenSpec.ofChange clefMovedWrong)

/-- 'tactuslaw06.ClefFewest': WHATEVER THE INPUT: true; the input reads as it did. -/
def clefFewestSpec : ChangeSpec := { name := "clefFewest", fn := fun _ => fun
  | [d1, d2] => { results := [.lit (.bool true)], args := [d1, d2] }
  | _ => none }
def clefFewestRow : OpenClaim := { program := "yteomimeagloofaadoor", sum := "25520cad1c3896abbe569d427bcc983a9d7beab5a13667e4d26ea61ff1775c5f", func := "tactus/tactuslaw06.ClefFewest", spec := "clefFewest", unfollowed := true, recurses := true, named := ["tactus/clef.keyAlters", "tactus/clef.clefPitches"], apart := false, laid := [("tactus/clef.clefPitches", laid_tactus_clef_clefPitches), ("tactus/clef.keyAlters", laid_tactus_clef_keyAlters)] }
def ClefFewestSaid : Prop := clefFewestRow.holds Tryd.pinned (OpenSpec.ofChange clefFewestSpec)

/-- ITS FALSE NEIGHBOUR: 'it returns false'. Refute it at one input. -/
def clefFewestWrong : ChangeSpec := { name := "clefFewest", fn := fun _ => fun
  | [d1, d2] => { results := [.lit (.bool false)], args := [d1, d2] }
  | _ => none }
def ClefFewestWrongFalsely : Prop := clefFewestRow.holds Tryd.pinned (OpenSpec.ofChange clefFewestWrong)

/- THE SECOND FORM. 'bulk': how many values and letters a reading holds, each counted each time it is reached (what is shared counts as often as it is met; a slice's spare places count too). A statement '..UptoSaid' is the law's where the arguments, and the package variables that the reading takes, are together of bulk at most 1048576: NARROWER than '..Said'. Prove '..Said' where nothing that the law and all that it calls make is longer than what came in: it says more and counts as full. Else prove '..UptoSaid'. A law counts once. -/
mutual
def uptoBulk {H : Type} : DataW H → Nat
  | .lit (.string bytes) => bytes.length + 1
  | .lit _ => 1
  | .nil => 1
  | .ptr d => uptoBulk d + 1
  | .slice elems spare => uptoBulkAll elems + uptoBulkAll spare + 1
  | .agg parts => uptoBulkAll parts + 1
  | .iface _ d => uptoBulk d + 1
  | .map entries => uptoBulkEntries entries + 1
  | .held _ => 1
def uptoBulkAll {H : Type} : List (DataW H) → Nat
  | [] => 0
  | d :: r => uptoBulk d + uptoBulkAll r
def uptoBulkEntries {H : Type} : List (Lit × DataW H) → Nat
  | [] => 0
  | x :: r => uptoBulkEntry x + uptoBulkEntries r
def uptoBulkEntry {H : Type} : Lit × DataW H → Nat
  | (.string bytes, d) => bytes.length + uptoBulk d + 1
  | (_, d) => uptoBulk d + 1
 end
def uptoSmall : (H : Type) → List (DataW H) → Bool := fun _ ds => decide (uptoBulkAll ds ≤ 1048576)
def OpenSpec.upto (s : _root_.Go.ChangeSpec) : _root_.Go.OpenSpec := { _root_.Go.OpenSpec.ofChange s with cond := some uptoSmall }

/-- 'tactuslaw06.ClefPlaces', WHERE WHAT IT READS IS OF BULK AT MOST 1048576: true; the input reads as it did. -/
def clefPlacesUptoRow : OpenClaim := { program := "yteomimeagloofaadoor", sum := "25520cad1c3896abbe569d427bcc983a9d7beab5a13667e4d26ea61ff1775c5f", func := "tactus/tactuslaw06.ClefPlaces", spec := "clefPlaces", unfollowed := true, recurses := true, named := ["tactus/clef.keyAlters", "tactus/clef.clefPitches"], apart := false, laid := [("tactus/clef.clefPitches", laid_tactus_clef_clefPitches), ("tactus/clef.keyAlters", laid_tactus_clef_keyAlters)], narrowed := true }
def ClefPlacesUptoSaid : Prop := clefPlacesUptoRow.holds Tryd.pinned (OpenSpec.upto clefPlacesSpec)

/-- 'tactuslaw06.ClefPitches', WHERE WHAT IT READS IS OF BULK AT MOST 1048576: true; the input reads as it did. -/
def clefPitchesUptoRow : OpenClaim := { program := "yteomimeagloofaadoor", sum := "25520cad1c3896abbe569d427bcc983a9d7beab5a13667e4d26ea61ff1775c5f", func := "tactus/tactuslaw06.ClefPitches", spec := "clefPitches", unfollowed := true, recurses := true, named := ["tactus/clef.clefPitches", "tactus/clef.keyAlters"], apart := false, laid := [("tactus/clef.clefPitches", laid_tactus_clef_clefPitches), ("tactus/clef.keyAlters", laid_tactus_clef_keyAlters)], narrowed := true }
def ClefPitchesUptoSaid : Prop := clefPitchesUptoRow.holds Tryd.pinned (OpenSpec.upto clefPitchesSpec)

/-- 'tactuslaw06.ClefBest', WHERE WHAT IT READS IS OF BULK AT MOST 1048576: true; the input reads as it did. -/
def clefBestUptoRow : OpenClaim := { program := "yteomimeagloofaadoor", sum := "25520cad1c3896abbe569d427bcc983a9d7beab5a13667e4d26ea61ff1775c5f", func := "tactus/tactuslaw06.ClefBest", spec := "clefBest", unfollowed := true, recurses := true, named := ["tactus/clef.clefPitches", "tactus/clef.keyAlters"], apart := false, laid := [("tactus/clef.clefPitches", laid_tactus_clef_clefPitches), ("tactus/clef.keyAlters", laid_tactus_clef_keyAlters)], narrowed := true }
def ClefBestUptoSaid : Prop := clefBestUptoRow.holds Tryd.pinned (OpenSpec.upto clefBestSpec)

/-- 'tactuslaw06.ClefKnown', WHERE WHAT IT READS IS OF BULK AT MOST 1048576: true; the input reads as it did. -/
def clefKnownUptoRow : OpenClaim := { program := "yteomimeagloofaadoor", sum := "25520cad1c3896abbe569d427bcc983a9d7beab5a13667e4d26ea61ff1775c5f", func := "tactus/tactuslaw06.ClefKnown", spec := "clefKnown", unfollowed := true, recurses := true, named := ["tactus/clef.keyAlters", "tactus/clef.clefPitches"], apart := false, laid := [("tactus/clef.clefPitches", laid_tactus_clef_clefPitches), ("tactus/clef.keyAlters", laid_tactus_clef_keyAlters)], narrowed := true }
def ClefKnownUptoSaid : Prop := clefKnownUptoRow.holds Tryd.pinned (OpenSpec.upto clefKnownSpec)

/-- 'tactuslaw06.ClefBack', WHERE WHAT IT READS IS OF BULK AT MOST 1048576: true; the input reads as it did. -/
def clefBackUptoRow : OpenClaim := { program := "yteomimeagloofaadoor", sum := "25520cad1c3896abbe569d427bcc983a9d7beab5a13667e4d26ea61ff1775c5f", func := "tactus/tactuslaw06.ClefBack", spec := "clefBack", unfollowed := true, recurses := true, named := ["tactus/clef.keyAlters", "tactus/clef.clefPitches"], apart := false, laid := [("tactus/clef.clefPitches", laid_tactus_clef_clefPitches), ("tactus/clef.keyAlters", laid_tactus_clef_keyAlters)], narrowed := true }
def ClefBackUptoSaid : Prop := clefBackUptoRow.holds Tryd.pinned (OpenSpec.upto clefBackSpec)

/-- 'tactuslaw06.ClefMoved', WHERE WHAT IT READS IS OF BULK AT MOST 1048576: true; the input reads as it did. -/
def clefMovedUptoRow : OpenClaim := { program := "yteomimeagloofaadoor", sum := "25520cad1c3896abbe569d427bcc983a9d7beab5a13667e4d26ea61ff1775c5f", func := "tactus/tactuslaw06.ClefMoved", spec := "clefMoved", unfollowed := true, recurses := true, named := ["tactus/clef.keyAlters", "tactus/clef.clefPitches"], apart := false, laid := [("tactus/clef.clefPitches", laid_tactus_clef_clefPitches), ("tactus/clef.keyAlters", laid_tactus_clef_keyAlters)], narrowed := true }
def ClefMovedUptoSaid : Prop := clefMovedUptoRow.holds Tryd.pinned (OpenSpec.upto clefMovedSpec)

/-- 'tactuslaw06.ClefFewest', WHERE WHAT IT READS IS OF BULK AT MOST 1048576: true; the input reads as it did. -/
def clefFewestUptoRow : OpenClaim := { program := "yteomimeagloofaadoor", sum := "25520cad1c3896abbe569d427bcc983a9d7beab5a13667e4d26ea61ff1775c5f", func := "tactus/tactuslaw06.ClefFewest", spec := "clefFewest", unfollowed := true, recurses := true, named := ["tactus/clef.keyAlters", "tactus/clef.clefPitches"], apart := false, laid := [("tactus/clef.clefPitches", laid_tactus_clef_clefPitches), ("tactus/clef.keyAlters", laid_tactus_clef_keyAlters)], narrowed := true }
def ClefFewestUptoSaid : Prop := clefFewestUptoRow.holds Tryd.pinned (OpenSpec.upto clefFewestSpec)

end Rows
end Go.Proofs.YteomimeagloofaaDoor
