/- The package's two tables: the pitches of the clefs and the alterations of the keys, as they stand in memory. -/
import Derived.Test.YteomimeagloofaaDoorCRefF
import Derived.LaidLaws
import Derived.ChangeArms
import Derived.Lib.LaidU8
namespace Go.Proofs.YteomimeagloofaaDoor
open Go.RowKit

/-- The pitches of the clefs, number for number. -/
def cpI (i : Nat) : Int := ([0, 4, 0, 3, 3, 0, 4, 4, 0] : List Int).getD i 0
/-- The tables stand as the program's text lays them. -/
structure TabC (w : World) : Prop where
  p : ∀ i : Nat, i < 9 → w.cell? ⟨1, i, none⟩ = some (.int .i64 (cpI i))
  k : ∀ s k : Nat, s < 7 → k < 3 → w.cell? ⟨0, s * 3 + k, none⟩ = some (.int .i64 (flatI k s))
theorem TabC.later {w w1 : World} (T : TabC w) (b : Below w.heap.size w w1) : TabC w1 :=
  ⟨fun i hi => cell_later b (T.p i hi), fun s k hs hk => cell_later b (T.k s k hs hk)⟩
theorem TabC.al {w : World} (T : TabC w) (o : Obj) : TabC (w.alloc o) := T.later (w_alloc (w_refl w) o)
theorem TabC.key {w : World} (T : TabC w) {k s : Int} (hs : 0 ≤ s ∧ s ≤ 6) (hk : 0 ≤ k ∧ k ≤ 2) : w.cell? ⟨0, s.toNat * 3 + k.toNat, none⟩ = some (.int .i64 (flatI k s)) := by
  have := T.k s.toNat k.toNat (by omega) (by omega)
  rw [Int.toNat_of_nonneg hs.1, Int.toNat_of_nonneg hk.1] at this
  exact this

/-! ### From the rows' condition -/
theorem cells_cp : Tryd.prog.cellsOf 25 = 3 := by kernel_rfl
theorem cells_k3 : Tryd.prog.cellsOf 56 = 3 := by kernel_rfl
theorem cells_i1 : Tryd.prog.cellsOf 3 = 1 := by kernel_rfl

theorem take3 {l : List Value} {n : Nat} {a b c : Value} (h : (l.drop n).take 3 = [a, b, c]) : l[n]? = some a ∧ l[n + 1]? = some b ∧ l[n + 2]? = some c := by
  have e0 := congrArg (·[0]?) h
  have e1 := congrArg (·[1]?) h
  have e2 := congrArg (·[2]?) h
  simp only [List.getElem?_take, List.getElem?_drop] at e0 e1 e2
  exact ⟨by simpa using e0, by simpa using e1, by simpa using e2⟩

theorem tabc_of {w : World} (h : Lib.VarReads Tryd.prog w "tactus/clef.clefPitches" (.agg [.agg [.lit (.int .i64 0), .lit (.int .i64 4), .lit (.int .i64 0)], .agg [.lit (.int .i64 3), .lit (.int .i64 3), .lit (.int .i64 0)], .agg [.lit (.int .i64 4), .lit (.int .i64 4), .lit (.int .i64 0)]]))
    (k : Lib.VarReads Tryd.prog w "tactus/clef.keyAlters" (.agg [.agg [.lit (.int .i64 0), .lit (.int .i64 0), .lit (.int .i64 0)], .agg [.lit (.int .i64 0), .lit (.int .i64 0), .lit (.int .i64 0)], .agg [.lit (.int .i64 0), .lit (.int .i64 0), .lit (.int .i64 (-1))], .agg [.lit (.int .i64 0), .lit (.int .i64 0), .lit (.int .i64 0)], .agg [.lit (.int .i64 0), .lit (.int .i64 0), .lit (.int .i64 0)], .agg [.lit (.int .i64 0), .lit (.int .i64 0), .lit (.int .i64 0)], .agg [.lit (.int .i64 0), .lit (.int .i64 (-1)), .lit (.int .i64 (-1))]])) : TabC w := by
  obtain ⟨g, t, cs, fuel, p, hg, hty, hvar, hd⟩ := h
  obtain ⟨g', t', cs', fuel', p', hg', hty', hvar', hd'⟩ := k
  obtain rfl : 1 = g := Option.some.inj ((show Tryd.prog.globalNamed "tactus/clef.clefPitches" = some 1 by kernel_rfl).symm.trans hg)
  obtain rfl : 0 = g' := Option.some.inj ((show Tryd.prog.globalNamed "tactus/clef.keyAlters" = some 0 by kernel_rfl).symm.trans hg')
  obtain rfl : 70 = t := Option.some.inj ((show (Tryd.prog.globals[1]?).map (·.type) = some 70 by kernel_rfl).symm.trans hty)
  obtain rfl : 57 = t' := Option.some.inj ((show (Tryd.prog.globals[0]?).map (·.type) = some 57 by kernel_rfl).symm.trans hty')
  have h1 : ∀ (i : Nat) (hi : i < 3), ∀ a b c : Int, ([.agg [.lit (.int .i64 0), .lit (.int .i64 4), .lit (.int .i64 0)], .agg [.lit (.int .i64 3), .lit (.int .i64 3), .lit (.int .i64 0)], .agg [.lit (.int .i64 4), .lit (.int .i64 4), .lit (.int .i64 0)]] : List (DataW Unit))[i]? = some (.agg [.lit (.int .i64 a), .lit (.int .i64 b), .lit (.int .i64 c)]) →
      (cs.toList.drop (i * 3)).take 3 = [.int .i64 a, .int .i64 b, .int .i64 c] := by
    intro i hi a b c hb
    obtain ⟨f2, d, q, h1, h2⟩ := Lib.array_elem Tryd.underlying70 hd i hi
    rw [hb] at h1
    simp only [Option.some.injEq] at h1
    subst h1
    rw [cells_cp] at h2
    exact Lib.ints_of_struct (zs := [a, b, c]) Tryd.underlying25 (fun j f hj => by
      match j, hj with
      | 0, hj => simp at hj; subst hj; exact ⟨Tryd.underlying3, rfl, cells_i1⟩
      | 1, hj => simp at hj; subst hj; exact ⟨Tryd.underlying3, rfl, cells_i1⟩
      | 2, hj => simp at hj; subst hj; exact ⟨Tryd.underlying3, rfl, cells_i1⟩
      | j + 3, hj => simp at hj) (by rw [cells_cp]; rfl) h2
  have h2 : ∀ (i : Nat) (hi : i < 7), ∀ a b c : Int, ([.agg [.lit (.int .i64 0), .lit (.int .i64 0), .lit (.int .i64 0)], .agg [.lit (.int .i64 0), .lit (.int .i64 0), .lit (.int .i64 0)], .agg [.lit (.int .i64 0), .lit (.int .i64 0), .lit (.int .i64 (-1))], .agg [.lit (.int .i64 0), .lit (.int .i64 0), .lit (.int .i64 0)], .agg [.lit (.int .i64 0), .lit (.int .i64 0), .lit (.int .i64 0)], .agg [.lit (.int .i64 0), .lit (.int .i64 0), .lit (.int .i64 0)], .agg [.lit (.int .i64 0), .lit (.int .i64 (-1)), .lit (.int .i64 (-1))]] : List (DataW Unit))[i]? = some (.agg [.lit (.int .i64 a), .lit (.int .i64 b), .lit (.int .i64 c)]) →
      (cs'.toList.drop (i * 3)).take 3 = [.int .i64 a, .int .i64 b, .int .i64 c] := by
    intro i hi a b c hb
    obtain ⟨f2, d, q, h1, h2⟩ := Lib.array_elem Tryd.underlying57 hd' i hi
    rw [hb] at h1
    simp only [Option.some.injEq] at h1
    subst h1
    rw [cells_k3] at h2
    exact Lib.cells_of_tab (k := .i64) (zs := [a, b, c]) Tryd.underlying56 Tryd.underlying3 cells_i1 cells_k3 h2
  refine ⟨fun i hi => ?_, fun s k hs hk => ?_⟩
  · rw [World.var?_cell hg hvar i, ← Array.getElem?_toList]
    obtain ⟨a0, a1, a2⟩ := take3 (h1 0 (by omega) _ _ _ rfl)
    obtain ⟨b0, b1, b2⟩ := take3 (h1 1 (by omega) _ _ _ rfl)
    obtain ⟨c0, c1, c2⟩ := take3 (h1 2 (by omega) _ _ _ rfl)
    have : i = 0 ∨ i = 1 ∨ i = 2 ∨ i = 3 ∨ i = 4 ∨ i = 5 ∨ i = 6 ∨ i = 7 ∨ i = 8 := by omega
    rcases this with rfl | rfl | rfl | rfl | rfl | rfl | rfl | rfl | rfl
    · exact a0
    · exact a1
    · exact a2
    · exact b0
    · exact b1
    · exact b2
    · exact c0
    · exact c1
    · exact c2
  · rw [World.var?_cell hg' hvar' (s * 3 + k), ← Array.getElem?_toList]
    have cs7 : s = 0 ∨ s = 1 ∨ s = 2 ∨ s = 3 ∨ s = 4 ∨ s = 5 ∨ s = 6 := by omega
    have ck : k = 0 ∨ k = 1 ∨ k = 2 := by omega
    rcases cs7 with rfl | rfl | rfl | rfl | rfl | rfl | rfl
    · obtain ⟨a0, a1, a2⟩ := take3 (h2 0 (by omega) _ _ _ rfl)
      rcases ck with rfl | rfl | rfl
      · exact a0
      · exact a1
      · exact a2
    · obtain ⟨a0, a1, a2⟩ := take3 (h2 1 (by omega) _ _ _ rfl)
      rcases ck with rfl | rfl | rfl
      · exact a0
      · exact a1
      · exact a2
    · obtain ⟨a0, a1, a2⟩ := take3 (h2 2 (by omega) _ _ _ rfl)
      rcases ck with rfl | rfl | rfl
      · exact a0
      · exact a1
      · exact a2
    · obtain ⟨a0, a1, a2⟩ := take3 (h2 3 (by omega) _ _ _ rfl)
      rcases ck with rfl | rfl | rfl
      · exact a0
      · exact a1
      · exact a2
    · obtain ⟨a0, a1, a2⟩ := take3 (h2 4 (by omega) _ _ _ rfl)
      rcases ck with rfl | rfl | rfl
      · exact a0
      · exact a1
      · exact a2
    · obtain ⟨a0, a1, a2⟩ := take3 (h2 5 (by omega) _ _ _ rfl)
      rcases ck with rfl | rfl | rfl
      · exact a0
      · exact a1
      · exact a2
    · obtain ⟨a0, a1, a2⟩ := take3 (h2 6 (by omega) _ _ _ rfl)
      rcases ck with rfl | rfl | rfl
      · exact a0
      · exact a1
      · exact a2

end Go.Proofs.YteomimeagloofaaDoor
