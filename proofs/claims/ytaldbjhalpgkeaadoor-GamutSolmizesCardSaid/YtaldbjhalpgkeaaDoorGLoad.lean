/- A row of plans, as it is loaded. -/
import Derived.Test.YtaldbjhalpgkeaaDoorGPlans
import Derived.Deep.MidRow
namespace Go.Proofs.YtaldbjhalpgkeaaDoor
open Go.RowKit Go.Shelf

theorem plsC_at (L : Nat → Pl) : ∀ j, j < 32 → (plsC L)[j]? = (plC (L (j / 4)))[j % 4]?
  | 0, _ => rfl
  | 1, _ => rfl
  | 2, _ => rfl
  | 3, _ => rfl
  | 4, _ => rfl
  | 5, _ => rfl
  | 6, _ => rfl
  | 7, _ => rfl
  | 8, _ => rfl
  | 9, _ => rfl
  | 10, _ => rfl
  | 11, _ => rfl
  | 12, _ => rfl
  | 13, _ => rfl
  | 14, _ => rfl
  | 15, _ => rfl
  | 16, _ => rfl
  | 17, _ => rfl
  | 18, _ => rfl
  | 19, _ => rfl
  | 20, _ => rfl
  | 21, _ => rfl
  | 22, _ => rfl
  | 23, _ => rfl
  | 24, _ => rfl
  | 25, _ => rfl
  | 26, _ => rfl
  | 27, _ => rfl
  | 28, _ => rfl
  | 29, _ => rfl
  | 30, _ => rfl
  | 31, _ => rfl
  | n + 32, h => absurd h (by omega)
/-- The cells of a row. -/
def rowL (L : Nat → Pl) : List Value := (plsC L).toList
theorem rowL_len (L : Nat → Pl) : (rowL L).length = 32 := rfl
theorem rowL_val (L : Nat → Pl) : plsV L = .agg (rowL L).toArray := rfl
theorem size_plans : (Tryd.prog.info? 81).map (·.size) = some 32 := by kernel_rfl
theorem TabC.range {n : Nat} {F : Nat → Nat → Pl} {cur : Array Value} (h : TabC n F cur) {i : Nat} (hi : i < n) {W : World} {k : Nat} {t : TypeId} (hk : HoldsB W k t cur) : W.rangeAt k (i * 32) (rowL (F i)) := by
  intro j v hj
  have hlt : j < 32 := by
    have := (List.getElem?_eq_some_iff.1 hj).1
    rwa [rowL_len] at this
  unfold rowL at hj
  rw [Array.getElem?_toList, plsC_at _ j hlt] at hj
  have e := h.at_ i (j / 4) (j % 4) hi (by omega) (by omega)
  rw [hj, show i * 32 + j / 4 * 4 + j % 4 = i * 32 + j by omega] at e
  exact hk.cell e

end Go.Proofs.YtaldbjhalpgkeaaDoor
