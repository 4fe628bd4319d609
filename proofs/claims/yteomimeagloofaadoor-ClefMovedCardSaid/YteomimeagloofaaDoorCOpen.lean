/- The rows' laid tables, as the walks read them. -/
import Derived.Test.YteomimeagloofaaDoorCTab
import Derived.Test.YteomimeagloofaaDoorKOpen
import Derived.Test.YteomimeagloofaaDoorRows
namespace Go.Proofs.YteomimeagloofaaDoor
open Go.RowKit

theorem tabc_laid {W : World} (hL : laidMetH Tryd.prog Rows.clefPlacesRow.laid W) : TabC W := by
  have h : laidMet Tryd.prog Rows.clefPlacesRow.laid W := hL
  exact tabc_of (Lib.laidMet.reads h (.head _)) (Lib.laidMet.reads h (.tail _ (.head _)))

end Go.Proofs.YteomimeagloofaaDoor
