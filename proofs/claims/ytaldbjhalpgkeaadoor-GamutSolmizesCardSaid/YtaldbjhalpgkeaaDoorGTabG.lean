/- The package's two tables: the places at which the hexachords begin, and the words of the syllables, as they stand in memory. -/
import Derived.Test.YtaldbjhalpgkeaaDoorGRefF
import Derived.LaidLaws
import Derived.ChangeArms
import Derived.Lib.LaidU8
namespace Go.Proofs.YtaldbjhalpgkeaaDoor
open Go.RowKit

/-- The tables stand as the program's text lays them. -/
structure TabG (w : World) : Prop where
  b : ∀ i : Nat, i < 7 → w.cell? ⟨0, i, none⟩ = some (.int .i64 (beginI (i + 1)))
  s : ∀ i : Nat, i < 6 → w.cell? ⟨1, i, none⟩ = some (.string (wordB (i + 1)))
theorem TabG.later {w w1 : World} (T : TabG w) (k : Below w.heap.size w w1) : TabG w1 :=
  ⟨fun i hi => cell_later k (T.b i hi), fun i hi => cell_later k (T.s i hi)⟩
theorem TabG.al {w : World} (T : TabG w) (o : Obj) : TabG (w.alloc o) := T.later (w_alloc (w_refl w) o)

/-! ### From the rows' condition -/
theorem cells_b7 : Tryd.prog.cellsOf 68 = 7 := by kernel_rfl
theorem cells_s6 : Tryd.prog.cellsOf 73 = 6 := by kernel_rfl
theorem cells_i1 : Tryd.prog.cellsOf 3 = 1 := by kernel_rfl
theorem cells_t1 : Tryd.prog.cellsOf 9 = 1 := by kernel_rfl

theorem tabg_of {w : World} (h : Lib.VarReads Tryd.prog w "tactus/gamut.beginnings" (.agg [.lit (.int .i64 0), .lit (.int .i64 3), .lit (.int .i64 6), .lit (.int .i64 7), .lit (.int .i64 10), .lit (.int .i64 13), .lit (.int .i64 14)]))
    (k : Lib.VarReads Tryd.prog w "tactus/gamut.syllableWords" (.agg [.lit (.string [117, 116]), .lit (.string [114, 101]), .lit (.string [109, 105]), .lit (.string [102, 97]), .lit (.string [115, 111, 108]), .lit (.string [108, 97])])) : TabG w := by
  obtain ⟨g, t, cs, fuel, p, hg, hty, hvar, hd⟩ := h
  obtain ⟨g', t', cs', fuel', p', hg', hty', hvar', hd'⟩ := k
  obtain rfl : 0 = g := Option.some.inj ((show Tryd.prog.globalNamed "tactus/gamut.beginnings" = some 0 by kernel_rfl).symm.trans hg)
  obtain rfl : 1 = g' := Option.some.inj ((show Tryd.prog.globalNamed "tactus/gamut.syllableWords" = some 1 by kernel_rfl).symm.trans hg')
  obtain rfl : 68 = t := Option.some.inj ((show (Tryd.prog.globals[0]?).map (·.type) = some 68 by kernel_rfl).symm.trans hty)
  obtain rfl : 73 = t' := Option.some.inj ((show (Tryd.prog.globals[1]?).map (·.type) = some 73 by kernel_rfl).symm.trans hty')
  have hc := Lib.cells_of_tab (k := .i64) (zs := [0, 3, 6, 7, 10, 13, 14]) Tryd.underlying68 Tryd.underlying3 cells_i1 cells_b7 hd
  have hs : ∀ (i : Nat) (hi : i < 6), ∀ bs, ([.lit (.string [117, 116]), .lit (.string [114, 101]), .lit (.string [109, 105]), .lit (.string [102, 97]), .lit (.string [115, 111, 108]), .lit (.string [108, 97])] : List (DataW Unit))[i]? = some (.lit (.string bs)) → cs'[i]? = some (.string ⟨bs.toArray⟩) := by
    intro i hi bs hb
    obtain ⟨f2, d, q, h1, h2⟩ := Lib.array_elem Tryd.underlying73 hd' i hi
    rw [hb] at h1
    simp only [Option.some.injEq] at h1
    subst h1
    rw [cells_t1] at h2
    obtain ⟨s, e1, e2, _⟩ := DataW.trod_string Tryd.underlying9 h2
    simp only [Prod.mk.injEq, DataW.lit.injEq, Lit.string.injEq] at e2
    have := congrArg (·[0]?) e1
    simp only [List.getElem?_take, List.getElem?_drop, Nat.mul_one] at this
    simp at this
    rw [this, e2.1]
  refine ⟨fun i hi => ?_, fun i hi => ?_⟩
  · rw [World.var?_cell hg hvar i, ← Array.getElem?_toList, hc]
    have : i = 0 ∨ i = 1 ∨ i = 2 ∨ i = 3 ∨ i = 4 ∨ i = 5 ∨ i = 6 := by omega
    rcases this with rfl | rfl | rfl | rfl | rfl | rfl | rfl <;> rfl
  · rw [World.var?_cell hg' hvar' i]
    have : i = 0 ∨ i = 1 ∨ i = 2 ∨ i = 3 ∨ i = 4 ∨ i = 5 := by omega
    rcases this with rfl | rfl | rfl | rfl | rfl | rfl
    · exact hs 0 (by omega) _ rfl
    · exact hs 1 (by omega) _ rfl
    · exact hs 2 (by omega) _ rfl
    · exact hs 3 (by omega) _ rfl
    · exact hs 4 (by omega) _ rfl
    · exact hs 5 (by omega) _ rfl

end Go.Proofs.YtaldbjhalpgkeaaDoor
