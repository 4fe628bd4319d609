/- What an argument that is a list of times, or of numbers, looks like in memory. -/
import Derived.Test.YtjgkliiofechfaaDoorRow
import Derived.Test.YtjgkliiofechfaaDoorSeq
import Derived.Deep.SlicePairs
namespace Go.Proofs.YtjgkliiofechfaaDoor
open Go.ChangeShapes Go.WideShapes Go.ChangeAt Go.RowKit Go.Deep

theorem spot_none {w : World} {a : Addr} {v : Value} (h : w.cell? a = some v) : a.spot = none := by
  unfold World.cell? at h
  split at h
  · split at h
    · cases h
    · rename_i h2; simpa using h2
  · cases h

theorem open_times {H : Type} {enc : TypeId × Value → H} {W : World} {base : Nat} {r : Reach} {v : Value} {d : DataW H} {ps : List MemPlace} (hw : Value.okWide Tryd.prog W r base 34 v)
    (h : DataW.Trod enc Tryd.prog W 0 (fun _ => true) true 34 v d ps) : ∃ (p : Option Addr) (cap : Nat) (l : List (Int × Int)), v = .slice p l.length cap ∧ TimesP W p cap l := by
  obtain ⟨a0, len, cap, rfl⟩ := okWide_slice Tryd.underlying34 hw
  obtain ⟨fuel, hf⟩ := h
  rcases open_slice_pairs Tryd.underlying34 Tryd.underlying23 cells_time rfl rfl (by kernel_rfl) (by kernel_rfl) hf with ⟨hcs, hx⟩ | ⟨a, len', cap', m, n, V0, V1, D0, D1, P0, P1, hcs, hb, hl, hm, hmm, hx, hall⟩
  · simp [Value.cells] at hcs
    obtain ⟨rfl, rfl, rfl⟩ := hcs
    exact ⟨none, 0, [], rfl, by simp, by omega, fun _ => rfl, fun h0 => by simp at h0⟩
  · simp [Value.cells] at hcs
    obtain ⟨rfl, rfl, rfl⟩ := hcs
    have hm2 : m = cap := by rw [hmm]; simp
    have each : ∀ i, i < m → ∃ z : Int × Int, V0 i = .int .i64 z.1 ∧ V1 i = .int .i64 z.2 := by
      intro i hi
      obtain ⟨_, _, t0, t1⟩ := hall i hi
      obtain ⟨x, ex, _, _⟩ := DataW.trod_int Tryd.underlying3 t0
      obtain ⟨y, ey, _, _⟩ := DataW.trod_int Tryd.underlying3 t1
      simp only [List.cons.injEq, and_true] at ex ey
      exact ⟨(x, y), ex, ey⟩
    obtain ⟨z, hz⟩ := choose_lt each
    have hlen : ((List.range len).map z).length = len := by simp
    unfold maxLen at hm
    refine ⟨some a, cap, (List.range len).map z, by rw [hlen], by rw [hlen]; exact hl, by omega, fun e => (by cases e), fun h0 => ?_⟩
    rw [hlen] at h0
    have s0 := spot_none (hall 0 (by omega)).1
    obtain ⟨b, off, sp⟩ := a
    have s1 : sp = none := by
      unfold Addr.add at s0
      simpa using s0
    subst s1
    have hgetD : ∀ k, k < len → ((List.range len).map z).getD k (0, 0) = z k := fun k hk => by simp [hk]
    refine ⟨b, off, rfl, World.block_lt_of_cell? _ _ (hall 0 (by omega)).1, fun k hk => ?_, fun k hk => ?_⟩
    · rw [hlen] at hk
      have := (hall k (by omega)).1
      rw [add_none, (hz k (by omega)).1] at this
      rw [this, hgetD k hk]
    · rw [hlen] at hk
      have := (hall k (by omega)).2.1
      rw [add_none, (hz k (by omega)).2] at this
      rw [Nat.add_assoc, this, hgetD k hk]

end Go.Proofs.YtjgkliiofechfaaDoor
