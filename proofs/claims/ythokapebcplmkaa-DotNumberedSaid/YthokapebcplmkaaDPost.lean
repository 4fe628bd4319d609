/- What Meanings and Rule hand back. -/
import Derived.Test.YthokapebcplmkaaDMem
import Derived.Test.YthokapebcplmkaaDSpec
namespace Go.Proofs.Ythokapebcplmkaa
open Go.RowKit

def MnPost (q : Q4) (l : List Sg) (w : World) (e : Ending) (w' : World) : Prop := ∃ v, e = .returned (.tuple #[v, .int .i64 (chkD q l)]) ∧ LstV w' v (mnD q l) ∧ Below w.heap.size w w'
def RuPost (q : Q4) (l : List Sg) (w : World) (e : Ending) (w' : World) : Prop := ∃ v, e = .returned (.tuple #[v, .int .i64 (chkD q l)]) ∧ IntV w' v (ruD q l) ∧ Below w.heap.size w w'

end Go.Proofs.Ythokapebcplmkaa
