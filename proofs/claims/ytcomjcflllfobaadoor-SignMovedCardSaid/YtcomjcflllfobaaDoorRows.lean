/-
  NARROWER THAN 'FOR EVERY INPUT', by the rows' own cells (each row's printed sentence says how): SignOnes: laid · SignParts: laid · SignSame: laid · SignKnown: laid · SignCounts: laid · SignMoved: laid · SignFirst: laid.
  DERIVED. THE GIVEN ROWS OF THIS SEAT. 7 by the template 'for every input the law returns true; each argument reads behind the call as it read before'; 0 by the template 'total and deterministic' (their statements: YtcomjcflllfobaaDoorTotals.lean).
  GIVEN WITH THE SEED: the statements are not yours to turn. If you find one false, say at which input.
  Laid BY PROGRAM, IN A SANDBOX (cutbox-rows.mjs): the forced cells as the released guide's own fill.sh prints them over the translation 040857ddf98456b9… (all of the seat's roots in one cut). By AI agents, Wed Nov 11 2026. No macro, syntax, notation, axiom, sorry.
-/
import Derived.Test.YtcomjcflllfobaaDoorChecked
import GoSem.Claim
import GoSem.ClaimJoined
import GoSem.ClaimMapViews
import Derived.JoinedTies
import Derived.KernelRfl
namespace Go.Proofs.YtcomjcflllfobaaDoor
/- THE CELL 'sum', in the pinned program and in every row, IS THE sha256 OF THE DUMP (.gsa) THAT YtcomjcflllfobaaDoorProg.lean LOADS. Nothing in Lean hashes anything: it is a label: what it is worth is what the hold of that sum in a sandbox is worth. -/
noncomputable def Tryd.pinned : Pinned := { name := "ytcomjcflllfobaadoor", sum := "040857ddf98456b9b717b18ccffe370112504121781a692309b6b59d917a58d6", checked := Tryd.checked }
namespace Rows
def none {H : Type} : Left H := { results := [], args := [] }

/- WHAT THE LISTED PACKAGE-LEVEL VARIABLES READ AS WHEN THE CALL BEGINS. Each datum BY PROGRAM (the guide's laid-datum.mjs) off the statement by which the dump's own 'gosem.cut.vars' lays the variable. In a bare row this is a premise. The card (YtcomjcflllfobaaDoorCards.lean) ties it to the program's text. -/
def laid_tactus_clef_clefPitches {H : Type} : DataW H := .agg [.agg [.lit (.int .i64 0), .lit (.int .i64 4), .lit (.int .i64 0)], .agg [.lit (.int .i64 3), .lit (.int .i64 3), .lit (.int .i64 0)], .agg [.lit (.int .i64 4), .lit (.int .i64 4), .lit (.int .i64 0)]]
def laid_tactus_sign_usedBy {H : Type} : DataW H := .agg [.agg [.lit (.bool false), .lit (.bool false), .lit (.bool false), .lit (.bool false), .lit (.bool false), .lit (.bool false), .lit (.bool false), .lit (.bool false), .lit (.bool false), .lit (.bool false), .lit (.bool false), .lit (.bool false)], .agg [.lit (.bool true), .lit (.bool true), .lit (.bool true), .lit (.bool true), .lit (.bool false), .lit (.bool false), .lit (.bool false), .lit (.bool false), .lit (.bool false), .lit (.bool false), .lit (.bool false), .lit (.bool false)], .agg [.lit (.bool true), .lit (.bool false), .lit (.bool false), .lit (.bool false), .lit (.bool false), .lit (.bool false), .lit (.bool false), .lit (.bool false), .lit (.bool false), .lit (.bool false), .lit (.bool false), .lit (.bool false)], .agg [.lit (.bool false), .lit (.bool false), .lit (.bool false), .lit (.bool false), .lit (.bool false), .lit (.bool false), .lit (.bool false), .lit (.bool false), .lit (.bool false), .lit (.bool false), .lit (.bool false), .lit (.bool false)], .agg [.lit (.bool false), .lit (.bool true), .lit (.bool true), .lit (.bool true), .lit (.bool true), .lit (.bool true), .lit (.bool true), .lit (.bool false), .lit (.bool false), .lit (.bool false), .lit (.bool false), .lit (.bool false)], .agg [.lit (.bool false), .lit (.bool false), .lit (.bool false), .lit (.bool false), .lit (.bool false), .lit (.bool false), .lit (.bool false), .lit (.bool true), .lit (.bool true), .lit (.bool false), .lit (.bool false), .lit (.bool false)], .agg [.lit (.bool false), .lit (.bool false), .lit (.bool false), .lit (.bool false), .lit (.bool false), .lit (.bool false), .lit (.bool false), .lit (.bool false), .lit (.bool false), .lit (.bool true), .lit (.bool true), .lit (.bool false)], .agg [.lit (.bool false), .lit (.bool false), .lit (.bool false), .lit (.bool false), .lit (.bool false), .lit (.bool false), .lit (.bool false), .lit (.bool false), .lit (.bool false), .lit (.bool false), .lit (.bool false), .lit (.bool true)], .agg [.lit (.bool false), .lit (.bool false), .lit (.bool false), .lit (.bool false), .lit (.bool false), .lit (.bool false), .lit (.bool false), .lit (.bool false), .lit (.bool false), .lit (.bool true), .lit (.bool false), .lit (.bool false)], .agg [.lit (.bool false), .lit (.bool false), .lit (.bool false), .lit (.bool false), .lit (.bool false), .lit (.bool false), .lit (.bool false), .lit (.bool false), .lit (.bool false), .lit (.bool false), .lit (.bool false), .lit (.bool false)], .agg [.lit (.bool false), .lit (.bool false), .lit (.bool false), .lit (.bool false), .lit (.bool false), .lit (.bool false), .lit (.bool false), .lit (.bool false), .lit (.bool false), .lit (.bool true), .lit (.bool false), .lit (.bool false)], .agg [.lit (.bool false), .lit (.bool false), .lit (.bool false), .lit (.bool false), .lit (.bool false), .lit (.bool false), .lit (.bool false), .lit (.bool false), .lit (.bool false), .lit (.bool false), .lit (.bool false), .lit (.bool false)], .agg [.lit (.bool false), .lit (.bool false), .lit (.bool false), .lit (.bool false), .lit (.bool false), .lit (.bool false), .lit (.bool false), .lit (.bool false), .lit (.bool false), .lit (.bool false), .lit (.bool false), .lit (.bool false)]]

/-- 'tactuslaw08.SignOnes': WHATEVER THE INPUT: true; the input reads as it did. -/
def signOnesSpec : ChangeSpec := { name := "signOnes", fn := fun _ => fun
  | [d1, d2] => { results := [.lit (.bool true)], args := [d1, d2] }
  | _ => none }
def signOnesRow : OpenClaim := { program := "ytcomjcflllfobaadoor", sum := "040857ddf98456b9b717b18ccffe370112504121781a692309b6b59d917a58d6", func := "tactus/tactuslaw08.SignOnes", spec := "signOnes", unfollowed := true, recurses := true, named := ["tactus/sign.usedBy", "tactus/clef.clefPitches"], apart := false, laid := [("tactus/clef.clefPitches", laid_tactus_clef_clefPitches), ("tactus/sign.usedBy", laid_tactus_sign_usedBy)] }
def SignOnesSaid : Prop := signOnesRow.holds Tryd.pinned (OpenSpec.ofChange signOnesSpec)

/-- ITS FALSE NEIGHBOUR: 'it returns false'. Refute it at one input. -/
def signOnesWrong : ChangeSpec := { name := "signOnes", fn := fun _ => fun
  | [d1, d2] => { results := [.lit (.bool false)], args := [d1, d2] }
  | _ => none }
def SignOnesWrongFalsely : Prop := signOnesRow.holds Tryd.pinned (OpenSpec.ofChange signOnesWrong)

/-- 'tactuslaw08.SignParts': WHATEVER THE INPUT: true; the input reads as it did. -/
def signPartsSpec : ChangeSpec := { name := "signParts", fn := fun _ => fun
  | [d] => { results := [.lit (.bool true)], args := [d] }
  | _ => none }
def signPartsRow : OpenClaim := { program := "ytcomjcflllfobaadoor", sum := "040857ddf98456b9b717b18ccffe370112504121781a692309b6b59d917a58d6", func := "tactus/tactuslaw08.SignParts", spec := "signParts", unfollowed := true, recurses := true, named := ["tactus/sign.usedBy", "tactus/clef.clefPitches"], apart := false, laid := [("tactus/clef.clefPitches", laid_tactus_clef_clefPitches), ("tactus/sign.usedBy", laid_tactus_sign_usedBy)] }
def SignPartsSaid : Prop := signPartsRow.holds Tryd.pinned (OpenSpec.ofChange signPartsSpec)

/-- ITS FALSE NEIGHBOUR: 'it returns false'. Refute it at one input. -/
def signPartsWrong : ChangeSpec := { name := "signParts", fn := fun _ => fun
  | [d] => { results := [.lit (.bool false)], args := [d] }
  | _ => none }
def SignPartsWrongFalsely : Prop := signPartsRow.holds Tryd.pinned (OpenSpec.ofChange signPartsWrong)

/-- 'tactuslaw08.SignSame': WHATEVER THE INPUT: true; the input reads as it did. -/
def signSameSpec : ChangeSpec := { name := "signSame", fn := fun _ => fun
  | [d1, d2] => { results := [.lit (.bool true)], args := [d1, d2] }
  | _ => none }
def signSameRow : OpenClaim := { program := "ytcomjcflllfobaadoor", sum := "040857ddf98456b9b717b18ccffe370112504121781a692309b6b59d917a58d6", func := "tactus/tactuslaw08.SignSame", spec := "signSame", unfollowed := true, recurses := true, named := ["tactus/sign.usedBy", "tactus/clef.clefPitches"], apart := false, laid := [("tactus/clef.clefPitches", laid_tactus_clef_clefPitches), ("tactus/sign.usedBy", laid_tactus_sign_usedBy)] }
def SignSameSaid : Prop := signSameRow.holds Tryd.pinned (OpenSpec.ofChange signSameSpec)

/-- ITS FALSE NEIGHBOUR: 'it returns false'. Refute it at one input. -/
def signSameWrong : ChangeSpec := { name := "signSame", fn := fun _ => fun
  | [d1, d2] => { results := [.lit (.bool false)], args := [d1, d2] }
  | _ => none }
def SignSameWrongFalsely : Prop := signSameRow.holds Tryd.pinned (OpenSpec.ofChange signSameWrong)

/-- 'tactuslaw08.SignKnown': WHATEVER THE INPUT: true; the input reads as it did. -/
def signKnownSpec : ChangeSpec := { name := "signKnown", fn := fun _ => fun
  | [] => { results := [.lit (.bool true)], args := [] }
  | _ => none }
def signKnownRow : OpenClaim := { program := "ytcomjcflllfobaadoor", sum := "040857ddf98456b9b717b18ccffe370112504121781a692309b6b59d917a58d6", func := "tactus/tactuslaw08.SignKnown", spec := "signKnown", unfollowed := true, recurses := true, named := ["tactus/sign.usedBy", "tactus/clef.clefPitches"], apart := false, laid := [("tactus/clef.clefPitches", laid_tactus_clef_clefPitches), ("tactus/sign.usedBy", laid_tactus_sign_usedBy)] }
def SignKnownSaid : Prop := signKnownRow.holds Tryd.pinned (OpenSpec.ofChange signKnownSpec)

/-- ITS FALSE NEIGHBOUR: 'it returns false'. Refute it at one input. -/
def signKnownWrong : ChangeSpec := { name := "signKnown", fn := fun _ => fun
  | [] => { results := [.lit (.bool false)], args := [] }
  | _ => none }
def SignKnownWrongFalsely : Prop := signKnownRow.holds Tryd.pinned (OpenSpec.ofChange signKnownWrong)

/-- 'tactuslaw08.SignCounts': WHATEVER THE INPUT: true; the input reads as it did. -/
def signCountsSpec : ChangeSpec := { name := "signCounts", fn := fun _ => fun
  | [d] => { results := [.lit (.bool true)], args := [d] }
  | _ => none }
def signCountsRow : OpenClaim := { program := "ytcomjcflllfobaadoor", sum := "040857ddf98456b9b717b18ccffe370112504121781a692309b6b59d917a58d6", func := "tactus/tactuslaw08.SignCounts", spec := "signCounts", unfollowed := true, recurses := true, named := ["tactus/sign.usedBy", "tactus/clef.clefPitches"], apart := false, laid := [("tactus/clef.clefPitches", laid_tactus_clef_clefPitches), ("tactus/sign.usedBy", laid_tactus_sign_usedBy)] }
def SignCountsSaid : Prop := signCountsRow.holds Tryd.pinned (OpenSpec.ofChange signCountsSpec)

/-- ITS FALSE NEIGHBOUR: 'it returns false'. Refute it at one input. -/
def signCountsWrong : ChangeSpec := { name := "signCounts", fn := fun _ => fun
  | [d] => { results := [.lit (.bool false)], args := [d] }
  | _ => none }
def SignCountsWrongFalsely : Prop := signCountsRow.holds Tryd.pinned (OpenSpec.ofChange signCountsWrong)

/-- 'tactuslaw08.SignMoved': WHATEVER THE INPUT: true; the input reads as it did. -/
def signMovedSpec : ChangeSpec := { name := "signMoved", fn := fun _ => fun
  | [d1, d2, d3] => { results := [.lit (.bool true)], args := [d1, d2, d3] }
  | _ => none }
def signMovedRow : OpenClaim := { program := "ytcomjcflllfobaadoor", sum := "040857ddf98456b9b717b18ccffe370112504121781a692309b6b59d917a58d6", func := "tactus/tactuslaw08.SignMoved", spec := "signMoved", unfollowed := true, recurses := true, named := ["tactus/sign.usedBy", "tactus/clef.clefPitches"], apart := false, laid := [("tactus/clef.clefPitches", laid_tactus_clef_clefPitches), ("tactus/sign.usedBy", laid_tactus_sign_usedBy)] }
def SignMovedSaid : Prop := signMovedRow.holds Tryd.pinned (OpenSpec.ofChange signMovedSpec)

/-- ITS FALSE NEIGHBOUR: 'it returns false'. Refute it at one input. -/
def signMovedWrong : ChangeSpec := { name := "signMoved", fn := fun _ => fun
  | [d1, d2, d3] => { results := [.lit (.bool false)], args := [d1, d2, d3] }
  | _ => none }
def SignMovedWrongFalsely : Prop := signMovedRow.holds Tryd.pinned (OpenSpec.ofChange signMovedWrong)

/-- 'tactuslaw08.SignFirst': WHATEVER THE INPUT: true; the input reads as it did. -/
def signFirstSpec : ChangeSpec := { name := "signFirst", fn := fun _ => fun
  | [d1, d2, d3, d4] => { results := [.lit (.bool true)], args := [d1, d2, d3, d4] }
  | _ => none }
def signFirstRow : OpenClaim := { program := "ytcomjcflllfobaadoor", sum := "040857ddf98456b9b717b18ccffe370112504121781a692309b6b59d917a58d6", func := "tactus/tactuslaw08.SignFirst", spec := "signFirst", unfollowed := true, recurses := true, named := ["tactus/sign.usedBy", "tactus/clef.clefPitches"], apart := false, laid := [("tactus/clef.clefPitches", laid_tactus_clef_clefPitches), ("tactus/sign.usedBy", laid_tactus_sign_usedBy)] }
def SignFirstSaid : Prop := signFirstRow.holds Tryd.pinned (OpenSpec.ofChange signFirstSpec)

/-- ITS FALSE NEIGHBOUR: 'it returns false'. Refute it at one input. -/
def signFirstWrong : ChangeSpec := { name := "signFirst", fn := fun _ => fun
  | [d1, d2, d3, d4] => { results := [.lit (.bool false)], args := [d1, d2, d3, d4] }
  | _ => none }
def SignFirstWrongFalsely : Prop := signFirstRow.holds Tryd.pinned (OpenSpec.ofChange signFirstWrong)

/- THE SECOND FORM. 'bulk': how many values and letters a reading holds, each counted each time it is reached (what is shared counts as often as it is met; a slice's spare places count too). A statement '..UptoSaid' is the law's where the arguments, and the package variables that the reading takes, are together of bulk at most 1048576: NARROWER than '..Said'. Prove '..Said' where nothing that the law and all that it calls make is longer than what came in: it says more and counts as full. Else prove '..UptoSaid'. A law counts once. -/
mutual
def uptoBulk {H : Type} : DataW H → Nat
  | .lit (.string bytes) => bytes.length + 1
  | .lit _ => 1
  | .nil => 1
  | .ptr d => uptoBulk d + 1
  | .slice elems spare => uptoBulkAll elems + uptoBulkAll spare + 1
  | .agg parts => uptoBulkAll parts + 1
  | .iface _ d => uptoBulk d + 1
  | .map entries => uptoBulkEntries entries + 1
  | .held _ => 1
def uptoBulkAll {H : Type} : List (DataW H) → Nat
  | [] => 0
  | d :: r => uptoBulk d + uptoBulkAll r
def uptoBulkEntries {H : Type} : List (Lit × DataW H) → Nat
  | [] => 0
  | x :: r => uptoBulkEntry x + uptoBulkEntries r
def uptoBulkEntry {H : Type} : Lit × DataW H → Nat
  | (.string bytes, d) => bytes.length + uptoBulk d + 1
  | (_, d) => uptoBulk d + 1
 end
def uptoSmall : (H : Type) → List (DataW H) → Bool := fun _ ds => decide (uptoBulkAll ds ≤ 1048576)
def OpenSpec.upto (s : _root_.Go.ChangeSpec) : _root_.Go.OpenSpec := { _root_.Go.OpenSpec.ofChange s with cond := some uptoSmall }

/-- 'tactuslaw08.SignOnes', WHERE WHAT IT READS IS OF BULK AT MOST 1048576: true; the input reads as it did. -/
def signOnesUptoRow : OpenClaim := { program := "ytcomjcflllfobaadoor", sum := "040857ddf98456b9b717b18ccffe370112504121781a692309b6b59d917a58d6", func := "tactus/tactuslaw08.SignOnes", spec := "signOnes", unfollowed := true, recurses := true, named := ["tactus/sign.usedBy", "tactus/clef.clefPitches"], apart := false, laid := [("tactus/clef.clefPitches", laid_tactus_clef_clefPitches), ("tactus/sign.usedBy", laid_tactus_sign_usedBy)], narrowed := true }
def SignOnesUptoSaid : Prop := signOnesUptoRow.holds Tryd.pinned (OpenSpec.upto signOnesSpec)

/-- 'tactuslaw08.SignParts', WHERE WHAT IT READS IS OF BULK AT MOST 1048576: true; the input reads as it did. -/
def signPartsUptoRow : OpenClaim := { program := "ytcomjcflllfobaadoor", sum := "040857ddf98456b9b717b18ccffe370112504121781a692309b6b59d917a58d6", func := "tactus/tactuslaw08.SignParts", spec := "signParts", unfollowed := true, recurses := true, named := ["tactus/sign.usedBy", "tactus/clef.clefPitches"], apart := false, laid := [("tactus/clef.clefPitches", laid_tactus_clef_clefPitches), ("tactus/sign.usedBy", laid_tactus_sign_usedBy)], narrowed := true }
def SignPartsUptoSaid : Prop := signPartsUptoRow.holds Tryd.pinned (OpenSpec.upto signPartsSpec)

/-- 'tactuslaw08.SignSame', WHERE WHAT IT READS IS OF BULK AT MOST 1048576: true; the input reads as it did. -/
def signSameUptoRow : OpenClaim := { program := "ytcomjcflllfobaadoor", sum := "040857ddf98456b9b717b18ccffe370112504121781a692309b6b59d917a58d6", func := "tactus/tactuslaw08.SignSame", spec := "signSame", unfollowed := true, recurses := true, named := ["tactus/sign.usedBy", "tactus/clef.clefPitches"], apart := false, laid := [("tactus/clef.clefPitches", laid_tactus_clef_clefPitches), ("tactus/sign.usedBy", laid_tactus_sign_usedBy)], narrowed := true }
def SignSameUptoSaid : Prop := signSameUptoRow.holds Tryd.pinned (OpenSpec.upto signSameSpec)

/-- 'tactuslaw08.SignKnown', WHERE WHAT IT READS IS OF BULK AT MOST 1048576: true; the input reads as it did. -/
def signKnownUptoRow : OpenClaim := { program := "ytcomjcflllfobaadoor", sum := "040857ddf98456b9b717b18ccffe370112504121781a692309b6b59d917a58d6", func := "tactus/tactuslaw08.SignKnown", spec := "signKnown", unfollowed := true, recurses := true, named := ["tactus/sign.usedBy", "tactus/clef.clefPitches"], apart := false, laid := [("tactus/clef.clefPitches", laid_tactus_clef_clefPitches), ("tactus/sign.usedBy", laid_tactus_sign_usedBy)], narrowed := true }
def SignKnownUptoSaid : Prop := signKnownUptoRow.holds Tryd.pinned (OpenSpec.upto signKnownSpec)

/-- 'tactuslaw08.SignCounts', WHERE WHAT IT READS IS OF BULK AT MOST 1048576: true; the input reads as it did. -/
def signCountsUptoRow : OpenClaim := { program := "ytcomjcflllfobaadoor", sum := "040857ddf98456b9b717b18ccffe370112504121781a692309b6b59d917a58d6", func := "tactus/tactuslaw08.SignCounts", spec := "signCounts", unfollowed := true, recurses := true, named := ["tactus/sign.usedBy", "tactus/clef.clefPitches"], apart := false, laid := [("tactus/clef.clefPitches", laid_tactus_clef_clefPitches), ("tactus/sign.usedBy", laid_tactus_sign_usedBy)], narrowed := true }
def SignCountsUptoSaid : Prop := signCountsUptoRow.holds Tryd.pinned (OpenSpec.upto signCountsSpec)

/-- 'tactuslaw08.SignMoved', WHERE WHAT IT READS IS OF BULK AT MOST 1048576: true; the input reads as it did. -/
def signMovedUptoRow : OpenClaim := { program := "ytcomjcflllfobaadoor", sum := "040857ddf98456b9b717b18ccffe370112504121781a692309b6b59d917a58d6", func := "tactus/tactuslaw08.SignMoved", spec := "signMoved", unfollowed := true, recurses := true, named := ["tactus/sign.usedBy", "tactus/clef.clefPitches"], apart := false, laid := [("tactus/clef.clefPitches", laid_tactus_clef_clefPitches), ("tactus/sign.usedBy", laid_tactus_sign_usedBy)], narrowed := true }
def SignMovedUptoSaid : Prop := signMovedUptoRow.holds Tryd.pinned (OpenSpec.upto signMovedSpec)

/-- 'tactuslaw08.SignFirst', WHERE WHAT IT READS IS OF BULK AT MOST 1048576: true; the input reads as it did. -/
def signFirstUptoRow : OpenClaim := { program := "ytcomjcflllfobaadoor", sum := "040857ddf98456b9b717b18ccffe370112504121781a692309b6b59d917a58d6", func := "tactus/tactuslaw08.SignFirst", spec := "signFirst", unfollowed := true, recurses := true, named := ["tactus/sign.usedBy", "tactus/clef.clefPitches"], apart := false, laid := [("tactus/clef.clefPitches", laid_tactus_clef_clefPitches), ("tactus/sign.usedBy", laid_tactus_sign_usedBy)], narrowed := true }
def SignFirstUptoSaid : Prop := signFirstUptoRow.holds Tryd.pinned (OpenSpec.upto signFirstSpec)

end Rows
end Go.Proofs.YtcomjcflllfobaaDoor
