/- A time takes two cells. -/
import Derived.Test.YtflgmeajkflobaaDoorBase
namespace Go.Proofs.YtflgmeajkflobaaDoor
theorem cells_time : Tryd.prog.cellsOf 28 = 2 := by kernel_rfl
end Go.Proofs.YtflgmeajkflobaaDoor
