/- From the rows' condition to the tables as the walks read them. -/
import Derived.Test.YtpkihehacocbhaaDoorRows
import Derived.Test.YtpkihehacocbhaaDoorPTab
namespace Go.Proofs.YtpkihehacocbhaaDoor

theorem tab_laid {W : World} (hL : laidMetH Tryd.prog Rows.pitchAddsRow.laid W) : Tab W := by
  have h : laidMet Tryd.prog Rows.pitchAddsRow.laid W := hL
  exact tab_of (Lib.laidMet.reads h (.tail _ (.tail _ (.tail _ (.head _))))) (Lib.laidMet.reads h (.tail _ (.tail _ (.tail _ (.tail _ (.head _))))))

end Go.Proofs.YtpkihehacocbhaaDoor
