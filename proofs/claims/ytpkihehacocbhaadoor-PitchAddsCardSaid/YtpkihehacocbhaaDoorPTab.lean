/- The package's two tables: the half-tones of the steps and the signs of the Alters, as they stand in memory. -/
import Derived.Test.YtpkihehacocbhaaDoorPSpec
import Derived.LaidLaws
import Derived.ChangeArms
import Derived.Lib.LaidU8
namespace Go.Proofs.YtpkihehacocbhaaDoor
open Go.RowKit

/-- The tables stand as the program's text lays them. -/
structure Tab (w : World) : Prop where
  h : ∀ i : Nat, i < 7 → w.cell? ⟨1, i, none⟩ = some (.int .i64 (semiI i))
  s0 : w.cell? ⟨0, 0, none⟩ = some (.string ⟨#[98]⟩)
  s1 : w.cell? ⟨0, 1, none⟩ = some (.string ⟨#[]⟩)
  s2 : w.cell? ⟨0, 2, none⟩ = some (.string ⟨#[35]⟩)

theorem cell_later {w w1 : World} {p : Addr} {v : Value} (k : Below w.heap.size w w1) (h : w.cell? p = some v) : w1.cell? p = some v := (k.cell (World.block_lt_of_cell? w p h)).trans h
theorem Tab.later {w w1 : World} (T : Tab w) (k : Below w.heap.size w w1) : Tab w1 :=
  ⟨fun i hi => cell_later k (T.h i hi), cell_later k T.s0, cell_later k T.s1, cell_later k T.s2⟩
theorem Tab.al {w : World} (T : Tab w) (o : Obj) : Tab (w.alloc o) := T.later (w_alloc (w_refl w) o)

/-- The sign of an Alter. -/
def signB (a : Int) : ByteArray := if a = -1 then ⟨#[98]⟩ else if a = 0 then ⟨#[]⟩ else ⟨#[35]⟩
theorem Tab.sign {w : World} (T : Tab w) {a : Int} (h1 : -1 ≤ a) (h2 : a ≤ 1) : w.cell? ⟨0, (a + 1).toNat, none⟩ = some (.string (signB a)) := by
  have : a = -1 ∨ a = 0 ∨ a = 1 := by omega
  rcases this with rfl | rfl | rfl
  · exact T.s0
  · exact T.s1
  · exact T.s2
theorem Tab.semi {w : World} (T : Tab w) {s : Int} (h1 : 0 ≤ s) (h2 : s ≤ 6) : w.cell? ⟨1, s.toNat, none⟩ = some (.int .i64 (semiI s)) := by
  rw [T.h s.toNat (by omega), Int.toNat_of_nonneg h1]

/-! ### From the rows' condition -/
theorem cells_h : Tryd.prog.cellsOf 57 = 7 := by kernel_rfl
theorem cells_s : Tryd.prog.cellsOf 54 = 3 := by kernel_rfl
theorem cells_i : Tryd.prog.cellsOf 3 = 1 := by kernel_rfl
theorem cells_t : Tryd.prog.cellsOf 9 = 1 := by kernel_rfl

theorem tab_of {w : World} (h : Lib.VarReads Tryd.prog w "tactus/pitch.halfTones" (.agg [.lit (.int .i64 0), .lit (.int .i64 2), .lit (.int .i64 4), .lit (.int .i64 5), .lit (.int .i64 7), .lit (.int .i64 9), .lit (.int .i64 11)]))
    (k : Lib.VarReads Tryd.prog w "tactus/pitch.signs" (.agg [.lit (.string [98]), .lit (.string []), .lit (.string [35])])) : Tab w := by
  obtain ⟨g, t, cs, fuel, p, hg, hty, hvar, hd⟩ := h
  obtain ⟨g', t', cs', fuel', p', hg', hty', hvar', hd'⟩ := k
  obtain rfl : 1 = g := Option.some.inj ((show Tryd.prog.globalNamed "tactus/pitch.halfTones" = some 1 by kernel_rfl).symm.trans hg)
  obtain rfl : 0 = g' := Option.some.inj ((show Tryd.prog.globalNamed "tactus/pitch.signs" = some 0 by kernel_rfl).symm.trans hg')
  obtain rfl : 57 = t := Option.some.inj ((show (Tryd.prog.globals[1]?).map (·.type) = some 57 by kernel_rfl).symm.trans hty)
  obtain rfl : 54 = t' := Option.some.inj ((show (Tryd.prog.globals[0]?).map (·.type) = some 54 by kernel_rfl).symm.trans hty')
  have hc := Lib.cells_of_tab (k := .i64) (zs := [0, 2, 4, 5, 7, 9, 11]) Tryd.underlying57 Tryd.underlying3 cells_i cells_h hd
  have hs : ∀ (i : Nat) (hi : i < 3), ∀ bs, ([.lit (.string [98]), .lit (.string []), .lit (.string [35])] : List (DataW Unit))[i]? = some (.lit (.string bs)) → cs'[i]? = some (.string ⟨bs.toArray⟩) := by
    intro i hi bs hb
    obtain ⟨f2, d, q, h1, h2⟩ := Lib.array_elem Tryd.underlying54 hd' i hi
    rw [hb] at h1
    simp only [Option.some.injEq] at h1
    subst h1
    rw [cells_t] at h2
    obtain ⟨s, e1, e2, _⟩ := DataW.trod_string Tryd.underlying9 h2
    simp only [Prod.mk.injEq, DataW.lit.injEq, Lit.string.injEq] at e2
    have := congrArg (·[0]?) e1
    simp only [List.getElem?_take, List.getElem?_drop, Nat.mul_one] at this
    simp at this
    rw [this, e2.1]
  refine ⟨fun i hi => ?_, ?_, ?_, ?_⟩
  · rw [World.var?_cell hg hvar i, ← Array.getElem?_toList, hc]
    have : i = 0 ∨ i = 1 ∨ i = 2 ∨ i = 3 ∨ i = 4 ∨ i = 5 ∨ i = 6 := by omega
    rcases this with rfl | rfl | rfl | rfl | rfl | rfl | rfl <;> rfl
  · rw [World.var?_cell hg' hvar' 0]; exact hs 0 (by omega) _ rfl
  · rw [World.var?_cell hg' hvar' 1]; exact hs 1 (by omega) _ rfl
  · rw [World.var?_cell hg' hvar' 2]; exact hs 2 (by omega) _ rfl

end Go.Proofs.YtpkihehacocbhaaDoor
