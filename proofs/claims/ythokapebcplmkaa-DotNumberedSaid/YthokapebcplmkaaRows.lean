/-
  No cell of these rows narrows 'for every input' (looked for: loops, veiled, ifaces, maps, wideKeys, modest, calm, conditions, laid).
  DERIVED. THE GIVEN ROWS OF THIS SEAT. 7 by the template 'for every input the law returns true; each argument reads behind the call as it read before'; 0 by the template 'total and deterministic' (their statements: YthokapebcplmkaaTotals.lean).
  GIVEN WITH THE SEED: the statements are not yours to turn. If you find one false, say at which input.
  Laid BY PROGRAM, IN A SANDBOX (cutbox-rows.mjs): the forced cells as the released guide's own fill.sh prints them over the translation 34d11ea65af8aa88… (all of the seat's roots in one cut). By AI agents, Wed Nov 11 2026. No macro, syntax, notation, axiom, sorry.
-/
import Derived.Test.YthokapebcplmkaaChecked
import GoSem.Claim
import GoSem.ClaimJoined
import GoSem.ClaimMapViews
import Derived.JoinedTies
import Derived.KernelRfl
namespace Go.Proofs.Ythokapebcplmkaa
/- THE CELL 'sum', in the pinned program and in every row, IS THE sha256 OF THE DUMP (.gsa) THAT YthokapebcplmkaaProg.lean LOADS. Nothing in Lean hashes anything: it is a label: what it is worth is what the hold of that sum in a sandbox is worth. -/
noncomputable def Try.pinned : Pinned := { name := "ythokapebcplmkaa", sum := "34d11ea65af8aa88c254962ff1c6b1845eced2b77d216939d2c1334c6337816f", checked := Try.checked }
namespace Rows
def none {H : Type} : Left H := { results := [], args := [] }

/-- 'tactuslaw09.DotMeanings': WHATEVER THE INPUT: true; the input reads as it did. -/
def dotMeaningsSpec : ChangeSpec := { name := "dotMeanings", fn := fun _ => fun
  | [d1, d2] => { results := [.lit (.bool true)], args := [d1, d2] }
  | _ => none }
def dotMeaningsRow : OpenClaim := { program := "ythokapebcplmkaa", sum := "34d11ea65af8aa88c254962ff1c6b1845eced2b77d216939d2c1334c6337816f", func := "tactus/tactuslaw09.DotMeanings", spec := "dotMeanings", unfollowed := true, recurses := true, apart := false }
def DotMeaningsSaid : Prop := dotMeaningsRow.holds Try.pinned (OpenSpec.ofChange dotMeaningsSpec)

/-- ITS FALSE NEIGHBOUR: 'it returns false'. Refute it at one input. -/
def dotMeaningsWrong : ChangeSpec := { name := "dotMeanings", fn := fun _ => fun
  | [d1, d2] => { results := [.lit (.bool false)], args := [d1, d2] }
  | _ => none }
def DotMeaningsWrongFalsely : Prop := dotMeaningsRow.holds Try.pinned (OpenSpec.ofChange dotMeaningsWrong)

/-- 'tactuslaw09.DotChosen': WHATEVER THE INPUT: true; the input reads as it did. -/
def dotChosenSpec : ChangeSpec := { name := "dotChosen", fn := fun _ => fun
  | [d1, d2, d3, d4] => { results := [.lit (.bool true)], args := [d1, d2, d3, d4] }
  | _ => none }
def dotChosenRow : OpenClaim := { program := "ythokapebcplmkaa", sum := "34d11ea65af8aa88c254962ff1c6b1845eced2b77d216939d2c1334c6337816f", func := "tactus/tactuslaw09.DotChosen", spec := "dotChosen", unfollowed := true, recurses := true, apart := false }
def DotChosenSaid : Prop := dotChosenRow.holds Try.pinned (OpenSpec.ofChange dotChosenSpec)

/-- ITS FALSE NEIGHBOUR: 'it returns false'. Refute it at one input. -/
def dotChosenWrong : ChangeSpec := { name := "dotChosen", fn := fun _ => fun
  | [d1, d2, d3, d4] => { results := [.lit (.bool false)], args := [d1, d2, d3, d4] }
  | _ => none }
def DotChosenWrongFalsely : Prop := dotChosenRow.holds Try.pinned (OpenSpec.ofChange dotChosenWrong)

/-- 'tactuslaw09.DotKnown': WHATEVER THE INPUT: true; the input reads as it did. -/
def dotKnownSpec : ChangeSpec := { name := "dotKnown", fn := fun _ => fun
  | [] => { results := [.lit (.bool true)], args := [] }
  | _ => none }
def dotKnownRow : OpenClaim := { program := "ythokapebcplmkaa", sum := "34d11ea65af8aa88c254962ff1c6b1845eced2b77d216939d2c1334c6337816f", func := "tactus/tactuslaw09.DotKnown", spec := "dotKnown", unfollowed := true, recurses := true, apart := false }
def DotKnownSaid : Prop := dotKnownRow.holds Try.pinned (OpenSpec.ofChange dotKnownSpec)

/-- ITS FALSE NEIGHBOUR: 'it returns false'. Refute it at one input. -/
def dotKnownWrong : ChangeSpec := { name := "dotKnown", fn := fun _ => fun
  | [] => { results := [.lit (.bool false)], args := [] }
  | _ => none }
def DotKnownWrongFalsely : Prop := dotKnownRow.holds Try.pinned (OpenSpec.ofChange dotKnownWrong)

/-- 'tactuslaw09.DotTwo': WHATEVER THE INPUT: true; the input reads as it did. -/
def dotTwoSpec : ChangeSpec := { name := "dotTwo", fn := fun _ => fun
  | [d1, d2] => { results := [.lit (.bool true)], args := [d1, d2] }
  | _ => none }
def dotTwoRow : OpenClaim := { program := "ythokapebcplmkaa", sum := "34d11ea65af8aa88c254962ff1c6b1845eced2b77d216939d2c1334c6337816f", func := "tactus/tactuslaw09.DotTwo", spec := "dotTwo", unfollowed := true, recurses := true, apart := false }
def DotTwoSaid : Prop := dotTwoRow.holds Try.pinned (OpenSpec.ofChange dotTwoSpec)

/-- ITS FALSE NEIGHBOUR: 'it returns false'. Refute it at one input. -/
def dotTwoWrong : ChangeSpec := { name := "dotTwo", fn := fun _ => fun
  | [d1, d2] => { results := [.lit (.bool false)], args := [d1, d2] }
  | _ => none }
def DotTwoWrongFalsely : Prop := dotTwoRow.holds Try.pinned (OpenSpec.ofChange dotTwoWrong)

/-- 'tactuslaw09.DotNumbered': WHATEVER THE INPUT: true; the input reads as it did. -/
def dotNumberedSpec : ChangeSpec := { name := "dotNumbered", fn := fun _ => fun
  | [d1, d2] => { results := [.lit (.bool true)], args := [d1, d2] }
  | _ => none }
def dotNumberedRow : OpenClaim := { program := "ythokapebcplmkaa", sum := "34d11ea65af8aa88c254962ff1c6b1845eced2b77d216939d2c1334c6337816f", func := "tactus/tactuslaw09.DotNumbered", spec := "dotNumbered", unfollowed := true, recurses := true, apart := false }
def DotNumberedSaid : Prop := dotNumberedRow.holds Try.pinned (OpenSpec.ofChange dotNumberedSpec)

/-- ITS FALSE NEIGHBOUR: 'it returns false'. Refute it at one input. -/
def dotNumberedWrong : ChangeSpec := { name := "dotNumbered", fn := fun _ => fun
  | [d1, d2] => { results := [.lit (.bool false)], args := [d1, d2] }
  | _ => none }
def DotNumberedWrongFalsely : Prop := dotNumberedRow.holds Try.pinned (OpenSpec.ofChange dotNumberedWrong)

/-- 'tactuslaw09.DotBinary': WHATEVER THE INPUT: true; the input reads as it did. -/
def dotBinarySpec : ChangeSpec := { name := "dotBinary", fn := fun _ => fun
  | [d] => { results := [.lit (.bool true)], args := [d] }
  | _ => none }
def dotBinaryRow : OpenClaim := { program := "ythokapebcplmkaa", sum := "34d11ea65af8aa88c254962ff1c6b1845eced2b77d216939d2c1334c6337816f", func := "tactus/tactuslaw09.DotBinary", spec := "dotBinary", unfollowed := true, recurses := true, apart := false }
def DotBinarySaid : Prop := dotBinaryRow.holds Try.pinned (OpenSpec.ofChange dotBinarySpec)

/-- ITS FALSE NEIGHBOUR: 'it returns false'. Refute it at one input. -/
def dotBinaryWrong : ChangeSpec := { name := "dotBinary", fn := fun _ => fun
  | [d] => { results := [.lit (.bool false)], args := [d] }
  | _ => none }
def DotBinaryWrongFalsely : Prop := dotBinaryRow.holds Try.pinned (OpenSpec.ofChange dotBinaryWrong)

/-- 'tactuslaw09.DotLocal': WHATEVER THE INPUT: true; the input reads as it did. -/
def dotLocalSpec : ChangeSpec := { name := "dotLocal", fn := fun _ => fun
  | [d1, d2] => { results := [.lit (.bool true)], args := [d1, d2] }
  | _ => none }
def dotLocalRow : OpenClaim := { program := "ythokapebcplmkaa", sum := "34d11ea65af8aa88c254962ff1c6b1845eced2b77d216939d2c1334c6337816f", func := "tactus/tactuslaw09.DotLocal", spec := "dotLocal", unfollowed := true, recurses := true, apart := false }
def DotLocalSaid : Prop := dotLocalRow.holds Try.pinned (OpenSpec.ofChange dotLocalSpec)

/-- ITS FALSE NEIGHBOUR: 'it returns false'. Refute it at one input. -/
def dotLocalWrong : ChangeSpec := { name := "dotLocal", fn := fun _ => fun
  | [d1, d2] => { results := [.lit (.bool false)], args := [d1, d2] }
  | _ => none }
def DotLocalWrongFalsely : Prop := dotLocalRow.holds Try.pinned (OpenSpec.ofChange dotLocalWrong)

/- THE SECOND FORM. 'bulk': how many values and letters a reading holds, each counted each time it is reached (what is shared counts as often as it is met; a slice's spare places count too). A statement '..UptoSaid' is the law's where the arguments, and the package variables that the reading takes, are together of bulk at most 1048576: NARROWER than '..Said'. Prove '..Said' where nothing that the law and all that it calls make is longer than what came in: it says more and counts as full. Else prove '..UptoSaid'. A law counts once. -/
mutual
def uptoBulk {H : Type} : DataW H → Nat
  | .lit (.string bytes) => bytes.length + 1
  | .lit _ => 1
  | .nil => 1
  | .ptr d => uptoBulk d + 1
  | .slice elems spare => uptoBulkAll elems + uptoBulkAll spare + 1
  | .agg parts => uptoBulkAll parts + 1
  | .iface _ d => uptoBulk d + 1
  | .map entries => uptoBulkEntries entries + 1
  | .held _ => 1
def uptoBulkAll {H : Type} : List (DataW H) → Nat
  | [] => 0
  | d :: r => uptoBulk d + uptoBulkAll r
def uptoBulkEntries {H : Type} : List (Lit × DataW H) → Nat
  | [] => 0
  | x :: r => uptoBulkEntry x + uptoBulkEntries r
def uptoBulkEntry {H : Type} : Lit × DataW H → Nat
  | (.string bytes, d) => bytes.length + uptoBulk d + 1
  | (_, d) => uptoBulk d + 1
 end
def uptoSmall : (H : Type) → List (DataW H) → Bool := fun _ ds => decide (uptoBulkAll ds ≤ 1048576)
def OpenSpec.upto (s : _root_.Go.ChangeSpec) : _root_.Go.OpenSpec := { _root_.Go.OpenSpec.ofChange s with cond := some uptoSmall }

/-- 'tactuslaw09.DotMeanings', WHERE WHAT IT READS IS OF BULK AT MOST 1048576: true; the input reads as it did. -/
def dotMeaningsUptoRow : OpenClaim := { program := "ythokapebcplmkaa", sum := "34d11ea65af8aa88c254962ff1c6b1845eced2b77d216939d2c1334c6337816f", func := "tactus/tactuslaw09.DotMeanings", spec := "dotMeanings", unfollowed := true, recurses := true, apart := false, narrowed := true }
def DotMeaningsUptoSaid : Prop := dotMeaningsUptoRow.holds Try.pinned (OpenSpec.upto dotMeaningsSpec)

/-- 'tactuslaw09.DotChosen', WHERE WHAT IT READS IS OF BULK AT MOST 1048576: true; the input reads as it did. -/
def dotChosenUptoRow : OpenClaim := { program := "ythokapebcplmkaa", sum := "34d11ea65af8aa88c254962ff1c6b1845eced2b77d216939d2c1334c6337816f", func := "tactus/tactuslaw09.DotChosen", spec := "dotChosen", unfollowed := true, recurses := true, apart := false, narrowed := true }
def DotChosenUptoSaid : Prop := dotChosenUptoRow.holds Try.pinned (OpenSpec.upto dotChosenSpec)

/-- 'tactuslaw09.DotKnown', WHERE WHAT IT READS IS OF BULK AT MOST 1048576: true; the input reads as it did. -/
def dotKnownUptoRow : OpenClaim := { program := "ythokapebcplmkaa", sum := "34d11ea65af8aa88c254962ff1c6b1845eced2b77d216939d2c1334c6337816f", func := "tactus/tactuslaw09.DotKnown", spec := "dotKnown", unfollowed := true, recurses := true, apart := false, narrowed := true }
def DotKnownUptoSaid : Prop := dotKnownUptoRow.holds Try.pinned (OpenSpec.upto dotKnownSpec)

/-- 'tactuslaw09.DotTwo', WHERE WHAT IT READS IS OF BULK AT MOST 1048576: true; the input reads as it did. -/
def dotTwoUptoRow : OpenClaim := { program := "ythokapebcplmkaa", sum := "34d11ea65af8aa88c254962ff1c6b1845eced2b77d216939d2c1334c6337816f", func := "tactus/tactuslaw09.DotTwo", spec := "dotTwo", unfollowed := true, recurses := true, apart := false, narrowed := true }
def DotTwoUptoSaid : Prop := dotTwoUptoRow.holds Try.pinned (OpenSpec.upto dotTwoSpec)

/-- 'tactuslaw09.DotNumbered', WHERE WHAT IT READS IS OF BULK AT MOST 1048576: true; the input reads as it did. -/
def dotNumberedUptoRow : OpenClaim := { program := "ythokapebcplmkaa", sum := "34d11ea65af8aa88c254962ff1c6b1845eced2b77d216939d2c1334c6337816f", func := "tactus/tactuslaw09.DotNumbered", spec := "dotNumbered", unfollowed := true, recurses := true, apart := false, narrowed := true }
def DotNumberedUptoSaid : Prop := dotNumberedUptoRow.holds Try.pinned (OpenSpec.upto dotNumberedSpec)

/-- 'tactuslaw09.DotBinary', WHERE WHAT IT READS IS OF BULK AT MOST 1048576: true; the input reads as it did. -/
def dotBinaryUptoRow : OpenClaim := { program := "ythokapebcplmkaa", sum := "34d11ea65af8aa88c254962ff1c6b1845eced2b77d216939d2c1334c6337816f", func := "tactus/tactuslaw09.DotBinary", spec := "dotBinary", unfollowed := true, recurses := true, apart := false, narrowed := true }
def DotBinaryUptoSaid : Prop := dotBinaryUptoRow.holds Try.pinned (OpenSpec.upto dotBinarySpec)

/-- 'tactuslaw09.DotLocal', WHERE WHAT IT READS IS OF BULK AT MOST 1048576: true; the input reads as it did. -/
def dotLocalUptoRow : OpenClaim := { program := "ythokapebcplmkaa", sum := "34d11ea65af8aa88c254962ff1c6b1845eced2b77d216939d2c1334c6337816f", func := "tactus/tactuslaw09.DotLocal", spec := "dotLocal", unfollowed := true, recurses := true, apart := false, narrowed := true }
def DotLocalUptoSaid : Prop := dotLocalUptoRow.holds Try.pinned (OpenSpec.upto dotLocalSpec)

end Rows
end Go.Proofs.Ythokapebcplmkaa
