/-
  No cell of these rows narrows 'for every input' (looked for: loops, veiled, ifaces, maps, wideKeys, modest, calm, conditions, laid).
  DERIVED. THE GIVEN ROWS OF THIS SEAT. 7 by the template 'for every input the law returns true; each argument reads behind the call as it read before'; 0 by the template 'total and deterministic' (their statements: YtedkcnphplpacaaTotals.lean).
  GIVEN WITH THE SEED: the statements are not yours to turn. If you find one false, say at which input.
  Laid BY PROGRAM, IN A SANDBOX (cutbox-rows.mjs): the forced cells as the released guide's own fill.sh prints them over the translation 3778db7232e3f031… (all of the seat's roots in one cut). By AI agents, Wed Nov 11 2026. No macro, syntax, notation, axiom, sorry.
-/
import Derived.Test.YtedkcnphplpacaaChecked
import GoSem.Claim
import GoSem.ClaimJoined
import GoSem.ClaimMapViews
import Derived.JoinedTies
import Derived.KernelRfl
namespace Go.Proofs.Ytedkcnphplpacaa
/- THE CELL 'sum', in the pinned program and in every row, IS THE sha256 OF THE DUMP (.gsa) THAT YtedkcnphplpacaaProg.lean LOADS. Nothing in Lean hashes anything: it is a label: what it is worth is what the hold of that sum in a sandbox is worth. -/
noncomputable def Try.pinned : Pinned := { name := "ytedkcnphplpacaa", sum := "3778db7232e3f031a6375aa9e937dc4df29caf5c1225cae2fdec2107ddcab7cf", checked := Try.checked }
namespace Rows
def none {H : Type} : Left H := { results := [], args := [] }

/-- 'tactuslaw07.LigatureKnown': WHATEVER THE INPUT: true; the input reads as it did. -/
def ligatureKnownSpec : ChangeSpec := { name := "ligatureKnown", fn := fun _ => fun
  | [] => { results := [.lit (.bool true)], args := [] }
  | _ => none }
def ligatureKnownRow : OpenClaim := { program := "ytedkcnphplpacaa", sum := "3778db7232e3f031a6375aa9e937dc4df29caf5c1225cae2fdec2107ddcab7cf", func := "tactus/tactuslaw07.LigatureKnown", spec := "ligatureKnown", unfollowed := true, recurses := true, apart := false }
def LigatureKnownSaid : Prop := ligatureKnownRow.holds Try.pinned (OpenSpec.ofChange ligatureKnownSpec)

/-- ITS FALSE NEIGHBOUR: 'it returns false'. Refute it at one input. -/
def ligatureKnownWrong : ChangeSpec := { name := "ligatureKnown", fn := fun _ => fun
  | [] => { results := [.lit (.bool false)], args := [] }
  | _ => none }
def LigatureKnownWrongFalsely : Prop := ligatureKnownRow.holds Try.pinned (OpenSpec.ofChange ligatureKnownWrong)

/-- 'tactuslaw07.LigatureValues': WHATEVER THE INPUT: true; the input reads as it did. -/
def ligatureValuesSpec : ChangeSpec := { name := "ligatureValues", fn := fun _ => fun
  | [d] => { results := [.lit (.bool true)], args := [d] }
  | _ => none }
def ligatureValuesRow : OpenClaim := { program := "ytedkcnphplpacaa", sum := "3778db7232e3f031a6375aa9e937dc4df29caf5c1225cae2fdec2107ddcab7cf", func := "tactus/tactuslaw07.LigatureValues", spec := "ligatureValues", unfollowed := true, recurses := true, apart := false }
def LigatureValuesSaid : Prop := ligatureValuesRow.holds Try.pinned (OpenSpec.ofChange ligatureValuesSpec)

/-- ITS FALSE NEIGHBOUR: 'it returns false'. Refute it at one input. -/
def ligatureValuesWrong : ChangeSpec := { name := "ligatureValues", fn := fun _ => fun
  | [d] => { results := [.lit (.bool false)], args := [d] }
  | _ => none }
def LigatureValuesWrongFalsely : Prop := ligatureValuesRow.holds Try.pinned (OpenSpec.ofChange ligatureValuesWrong)

/-- 'tactuslaw07.LigatureShapes': WHATEVER THE INPUT: true; the input reads as it did. -/
def ligatureShapesSpec : ChangeSpec := { name := "ligatureShapes", fn := fun _ => fun
  | [d1, d2] => { results := [.lit (.bool true)], args := [d1, d2] }
  | _ => none }
def ligatureShapesRow : OpenClaim := { program := "ytedkcnphplpacaa", sum := "3778db7232e3f031a6375aa9e937dc4df29caf5c1225cae2fdec2107ddcab7cf", func := "tactus/tactuslaw07.LigatureShapes", spec := "ligatureShapes", unfollowed := true, recurses := true, apart := false }
def LigatureShapesSaid : Prop := ligatureShapesRow.holds Try.pinned (OpenSpec.ofChange ligatureShapesSpec)

/-- ITS FALSE NEIGHBOUR: 'it returns false'. Refute it at one input. -/
def ligatureShapesWrong : ChangeSpec := { name := "ligatureShapes", fn := fun _ => fun
  | [d1, d2] => { results := [.lit (.bool false)], args := [d1, d2] }
  | _ => none }
def LigatureShapesWrongFalsely : Prop := ligatureShapesRow.holds Try.pinned (OpenSpec.ofChange ligatureShapesWrong)

/-- 'tactuslaw07.LigatureBack': WHATEVER THE INPUT: true; the input reads as it did. -/
def ligatureBackSpec : ChangeSpec := { name := "ligatureBack", fn := fun _ => fun
  | [d1, d2] => { results := [.lit (.bool true)], args := [d1, d2] }
  | _ => none }
def ligatureBackRow : OpenClaim := { program := "ytedkcnphplpacaa", sum := "3778db7232e3f031a6375aa9e937dc4df29caf5c1225cae2fdec2107ddcab7cf", func := "tactus/tactuslaw07.LigatureBack", spec := "ligatureBack", unfollowed := true, recurses := true, apart := false }
def LigatureBackSaid : Prop := ligatureBackRow.holds Try.pinned (OpenSpec.ofChange ligatureBackSpec)

/-- ITS FALSE NEIGHBOUR: 'it returns false'. Refute it at one input. -/
def ligatureBackWrong : ChangeSpec := { name := "ligatureBack", fn := fun _ => fun
  | [d1, d2] => { results := [.lit (.bool false)], args := [d1, d2] }
  | _ => none }
def LigatureBackWrongFalsely : Prop := ligatureBackRow.holds Try.pinned (OpenSpec.ofChange ligatureBackWrong)

/-- 'tactuslaw07.LigatureAllows': WHATEVER THE INPUT: true; the input reads as it did. -/
def ligatureAllowsSpec : ChangeSpec := { name := "ligatureAllows", fn := fun _ => fun
  | [d1, d2] => { results := [.lit (.bool true)], args := [d1, d2] }
  | _ => none }
def ligatureAllowsRow : OpenClaim := { program := "ytedkcnphplpacaa", sum := "3778db7232e3f031a6375aa9e937dc4df29caf5c1225cae2fdec2107ddcab7cf", func := "tactus/tactuslaw07.LigatureAllows", spec := "ligatureAllows", unfollowed := true, recurses := true, apart := false }
def LigatureAllowsSaid : Prop := ligatureAllowsRow.holds Try.pinned (OpenSpec.ofChange ligatureAllowsSpec)

/-- ITS FALSE NEIGHBOUR: 'it returns false'. Refute it at one input. -/
def ligatureAllowsWrong : ChangeSpec := { name := "ligatureAllows", fn := fun _ => fun
  | [d1, d2] => { results := [.lit (.bool false)], args := [d1, d2] }
  | _ => none }
def LigatureAllowsWrongFalsely : Prop := ligatureAllowsRow.holds Try.pinned (OpenSpec.ofChange ligatureAllowsWrong)

/-- 'tactuslaw07.LigatureMoved': WHATEVER THE INPUT: true; the input reads as it did. -/
def ligatureMovedSpec : ChangeSpec := { name := "ligatureMoved", fn := fun _ => fun
  | [d1, d2, d3] => { results := [.lit (.bool true)], args := [d1, d2, d3] }
  | _ => none }
def ligatureMovedRow : OpenClaim := { program := "ytedkcnphplpacaa", sum := "3778db7232e3f031a6375aa9e937dc4df29caf5c1225cae2fdec2107ddcab7cf", func := "tactus/tactuslaw07.LigatureMoved", spec := "ligatureMoved", unfollowed := true, recurses := true, apart := false }
def LigatureMovedSaid : Prop := ligatureMovedRow.holds Try.pinned (OpenSpec.ofChange ligatureMovedSpec)

/-- ITS FALSE NEIGHBOUR: 'it returns false'. Refute it at one input. -/
def ligatureMovedWrong : ChangeSpec := { name := "ligatureMoved", fn := fun _ => fun
  | [d1, d2, d3] => { results := [.lit (.bool false)], args := [d1, d2, d3] }
  | _ => none }
def LigatureMovedWrongFalsely : Prop := ligatureMovedRow.holds Try.pinned (OpenSpec.ofChange ligatureMovedWrong)

/-- 'tactuslaw07.LigaturePieces': WHATEVER THE INPUT: true; the input reads as it did. -/
def ligaturePiecesSpec : ChangeSpec := { name := "ligaturePieces", fn := fun _ => fun
  | [d1, d2] => { results := [.lit (.bool true)], args := [d1, d2] }
  | _ => none }
def ligaturePiecesRow : OpenClaim := { program := "ytedkcnphplpacaa", sum := "3778db7232e3f031a6375aa9e937dc4df29caf5c1225cae2fdec2107ddcab7cf", func := "tactus/tactuslaw07.LigaturePieces", spec := "ligaturePieces", unfollowed := true, recurses := true, apart := false }
def LigaturePiecesSaid : Prop := ligaturePiecesRow.holds Try.pinned (OpenSpec.ofChange ligaturePiecesSpec)

/-- ITS FALSE NEIGHBOUR: 'it returns false'. Refute it at one input. -/
def ligaturePiecesWrong : ChangeSpec := { name := "ligaturePieces", fn := fun _ => fun
  | [d1, d2] => { results := [.lit (.bool false)], args := [d1, d2] }
  | _ => none }
def LigaturePiecesWrongFalsely : Prop := ligaturePiecesRow.holds Try.pinned (OpenSpec.ofChange ligaturePiecesWrong)

/- THE SECOND FORM. 'bulk': how many values and letters a reading holds, each counted each time it is reached (what is shared counts as often as it is met; a slice's spare places count too). A statement '..UptoSaid' is the law's where the arguments, and the package variables that the reading takes, are together of bulk at most 1048576: NARROWER than '..Said'. Prove '..Said' where nothing that the law and all that it calls make is longer than what came in: it says more and counts as full. Else prove '..UptoSaid'. A law counts once. -/
mutual
def uptoBulk {H : Type} : DataW H → Nat
  | .lit (.string bytes) => bytes.length + 1
  | .lit _ => 1
  | .nil => 1
  | .ptr d => uptoBulk d + 1
  | .slice elems spare => uptoBulkAll elems + uptoBulkAll spare + 1
  | .agg parts => uptoBulkAll parts + 1
  | .iface _ d => uptoBulk d + 1
  | .map entries => uptoBulkEntries entries + 1
  | .held _ => 1
def uptoBulkAll {H : Type} : List (DataW H) → Nat
  | [] => 0
  | d :: r => uptoBulk d + uptoBulkAll r
def uptoBulkEntries {H : Type} : List (Lit × DataW H) → Nat
  | [] => 0
  | x :: r => uptoBulkEntry x + uptoBulkEntries r
def uptoBulkEntry {H : Type} : Lit × DataW H → Nat
  | (.string bytes, d) => bytes.length + uptoBulk d + 1
  | (_, d) => uptoBulk d + 1
 end
def uptoSmall : (H : Type) → List (DataW H) → Bool := fun _ ds => decide (uptoBulkAll ds ≤ 1048576)
def OpenSpec.upto (s : _root_.Go.ChangeSpec) : _root_.Go.OpenSpec := { _root_.Go.OpenSpec.ofChange s with cond := some uptoSmall }

/-- 'tactuslaw07.LigatureKnown', WHERE WHAT IT READS IS OF BULK AT MOST 1048576: true; the input reads as it did. -/
def ligatureKnownUptoRow : OpenClaim := { program := "ytedkcnphplpacaa", sum := "3778db7232e3f031a6375aa9e937dc4df29caf5c1225cae2fdec2107ddcab7cf", func := "tactus/tactuslaw07.LigatureKnown", spec := "ligatureKnown", unfollowed := true, recurses := true, apart := false, narrowed := true }
def LigatureKnownUptoSaid : Prop := ligatureKnownUptoRow.holds Try.pinned (OpenSpec.upto ligatureKnownSpec)

/-- 'tactuslaw07.LigatureValues', WHERE WHAT IT READS IS OF BULK AT MOST 1048576: true; the input reads as it did. -/
def ligatureValuesUptoRow : OpenClaim := { program := "ytedkcnphplpacaa", sum := "3778db7232e3f031a6375aa9e937dc4df29caf5c1225cae2fdec2107ddcab7cf", func := "tactus/tactuslaw07.LigatureValues", spec := "ligatureValues", unfollowed := true, recurses := true, apart := false, narrowed := true }
def LigatureValuesUptoSaid : Prop := ligatureValuesUptoRow.holds Try.pinned (OpenSpec.upto ligatureValuesSpec)

/-- 'tactuslaw07.LigatureShapes', WHERE WHAT IT READS IS OF BULK AT MOST 1048576: true; the input reads as it did. -/
def ligatureShapesUptoRow : OpenClaim := { program := "ytedkcnphplpacaa", sum := "3778db7232e3f031a6375aa9e937dc4df29caf5c1225cae2fdec2107ddcab7cf", func := "tactus/tactuslaw07.LigatureShapes", spec := "ligatureShapes", unfollowed := true, recurses := true, apart := false, narrowed := true }
def LigatureShapesUptoSaid : Prop := ligatureShapesUptoRow.holds Try.pinned (OpenSpec.upto ligatureShapesSpec)

/-- 'tactuslaw07.LigatureBack', WHERE WHAT IT READS IS OF BULK AT MOST 1048576: true; the input reads as it did. -/
def ligatureBackUptoRow : OpenClaim := { program := "ytedkcnphplpacaa", sum := "3778db7232e3f031a6375aa9e937dc4df29caf5c1225cae2fdec2107ddcab7cf", func := "tactus/tactuslaw07.LigatureBack", spec := "ligatureBack", unfollowed := true, recurses := true, apart := false, narrowed := true }
def LigatureBackUptoSaid : Prop := ligatureBackUptoRow.holds Try.pinned (OpenSpec.upto ligatureBackSpec)

/-- 'tactuslaw07.LigatureAllows', WHERE WHAT IT READS IS OF BULK AT MOST 1048576: true; the input reads as it did. -/
def ligatureAllowsUptoRow : OpenClaim := { program := "ytedkcnphplpacaa", sum := "3778db7232e3f031a6375aa9e937dc4df29caf5c1225cae2fdec2107ddcab7cf", func := "tactus/tactuslaw07.LigatureAllows", spec := "ligatureAllows", unfollowed := true, recurses := true, apart := false, narrowed := true }
def LigatureAllowsUptoSaid : Prop := ligatureAllowsUptoRow.holds Try.pinned (OpenSpec.upto ligatureAllowsSpec)

/-- 'tactuslaw07.LigatureMoved', WHERE WHAT IT READS IS OF BULK AT MOST 1048576: true; the input reads as it did. -/
def ligatureMovedUptoRow : OpenClaim := { program := "ytedkcnphplpacaa", sum := "3778db7232e3f031a6375aa9e937dc4df29caf5c1225cae2fdec2107ddcab7cf", func := "tactus/tactuslaw07.LigatureMoved", spec := "ligatureMoved", unfollowed := true, recurses := true, apart := false, narrowed := true }
def LigatureMovedUptoSaid : Prop := ligatureMovedUptoRow.holds Try.pinned (OpenSpec.upto ligatureMovedSpec)

/-- 'tactuslaw07.LigaturePieces', WHERE WHAT IT READS IS OF BULK AT MOST 1048576: true; the input reads as it did. -/
def ligaturePiecesUptoRow : OpenClaim := { program := "ytedkcnphplpacaa", sum := "3778db7232e3f031a6375aa9e937dc4df29caf5c1225cae2fdec2107ddcab7cf", func := "tactus/tactuslaw07.LigaturePieces", spec := "ligaturePieces", unfollowed := true, recurses := true, apart := false, narrowed := true }
def LigaturePiecesUptoSaid : Prop := ligaturePiecesUptoRow.holds Try.pinned (OpenSpec.upto ligaturePiecesSpec)

end Rows
end Go.Proofs.Ytedkcnphplpacaa
