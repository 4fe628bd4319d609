/- What the reference keeps of a sign. -/
import Derived.Test.YtcomjcflllfobaaDoorSRefDb
import Derived.Test.YtcomjcflllfobaaDoorSRefDc
import Derived.Test.YtcomjcflllfobaaDoorSRefDd
import Derived.Test.YtcomjcflllfobaaDoorSRefC
namespace Go.Proofs.YtcomjcflllfobaaDoor
open Go.RowKit
attribute [local go_sem] sgA_g0 sgA_g1 sgA_g2 sgA_g3 sgA_g4 sgA_g5 sgA_g6 sgA_g7 sgA_g8 sgA_g9 sgA_g10 sgA_g11 sgA_g12 sgA_g13 sgA_g14 sgA_g15 sgA_g16

theorem rused_any (s : Sg) (hk : kOk s.kind) (w : World) : Calls Tryd.prog 46 #[sgv s] w fun e w' => e = .returned (sgv (useS s)) ∧ Below w.heap.size w w' := by
  rcases kinds_of hk with h | h | h | h | h | h | h | h | h | h | h | h
  · exact rused_1 s h w
  · exact rused_2 s h w
  · exact rused_3 s h w
  · exact rused_4 s h w
  · exact rused_5 s h w
  · exact rused_6 s h w
  · exact rused_7 s h w
  · exact rused_8 s h w
  · exact rused_9 s h w
  · exact rused_10 s h w
  · exact rused_11 s h w
  · exact rused_12 s h w

end Go.Proofs.YtcomjcflllfobaaDoor
