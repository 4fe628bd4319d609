/- What the rows list gives the walks: the library's table of powers. -/
import Derived.Test.YtjgkliiofechfaaDoorRow
import Derived.Test.YtjgkliiofechfaaDoorText
namespace Go.Proofs.YtjgkliiofechfaaDoor
open Go.ChangeShapes Go.WideShapes Go.ChangeAt Go.RowKit

theorem ty_tab : (Tryd.prog.globals[0]?).map (·.type) = some 79 := by kernel_rfl
theorem cells_tab : Tryd.prog.cellsOf 79 = 20 := by kernel_rfl
theorem cells_u64 : Tryd.prog.cellsOf 60 = 1 := by kernel_rfl
theorem data_tab : (Rows.laid_internal_strconv_uint64pow10 : DataW Unit) = Lib.tabData .u64 Lib.pow10Tab := by kernel_rfl

theorem tab_of {W : World} (h : laidMetH Tryd.prog Rows.spanTextsRow.laid W) : Tab W := by
  rw [MakeChecks.laidMetH_plain _ _ _ (by kernel_rfl)] at h
  obtain ⟨ps, ⟨g0, t0, cs0, f0, p0, q0, _, _, _, _, ⟨g1, t1, cs1, f1, p1, q1, _, _, _, _, ⟨g2, t2, cs2, f2, p2, q2, hg, hty, hvar, hd, _, _⟩, _⟩, _⟩, _, _⟩ := h
  obtain rfl := Option.some.inj (gTab.symm.trans hg)
  obtain rfl := Option.some.inj (ty_tab.symm.trans hty)
  rw [data_tab] at hd
  unfold Tab Lib.TabIs
  rw [hvar, ← Lib.cells_of_tab Tryd.underlying79 Tryd.underlying60 cells_u64 cells_tab hd]

end Go.Proofs.YtjgkliiofechfaaDoor
