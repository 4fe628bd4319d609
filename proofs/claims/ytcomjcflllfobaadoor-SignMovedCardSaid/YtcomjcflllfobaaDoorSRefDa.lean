/- What the reference keeps of a sign. -/
import Derived.Test.YtcomjcflllfobaaDoorSRefC
namespace Go.Proofs.YtcomjcflllfobaaDoor
open Go.RowKit
attribute [local go_sem] sgA_g0 sgA_g1 sgA_g2 sgA_g3 sgA_g4 sgA_g5 sgA_g6 sgA_g7 sgA_g8 sgA_g9 sgA_g10 sgA_g11 sgA_g12 sgA_g13 sgA_g14 sgA_g15 sgA_g16

def knS (k : Int) : Sg := ⟨k, 0, 0, 0, false, 0, false, false, 0, 0, 0, 0, false, 0, 0, 0, 0⟩
end Go.Proofs.YtcomjcflllfobaaDoor
