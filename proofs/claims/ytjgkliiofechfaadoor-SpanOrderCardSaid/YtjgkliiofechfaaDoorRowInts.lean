/- What an argument that is a list of numbers looks like in memory. -/
import Derived.Test.YtjgkliiofechfaaDoorRowTimes
import Derived.Test.YtjgkliiofechfaaDoorSpans
namespace Go.Proofs.YtjgkliiofechfaaDoor
open Go.ChangeShapes Go.WideShapes Go.ChangeAt Go.RowKit Go.Deep

theorem cells_int : Tryd.prog.cellsOf 3 = 1 := by kernel_rfl

theorem open_numbers {H : Type} {enc : TypeId × Value → H} {W : World} {base : Nat} {r : Reach} {v : Value} {d : DataW H} {ps : List MemPlace} (hw : Value.okWide Tryd.prog W r base 50 v)
    (h : DataW.Trod enc Tryd.prog W 0 (fun _ => true) true 50 v d ps) : ∃ (p : Option Addr) (cap : Nat) (zs : List Int), v = .slice p zs.length cap ∧ IntsP W p cap zs := by
  obtain ⟨a0, len, cap, rfl⟩ := okWide_slice Tryd.underlying50 hw
  obtain ⟨fuel, hf⟩ := h
  rcases open_ints Tryd.underlying50 Tryd.underlying3 cells_int hf with ⟨hcs, hx⟩ | ⟨a, len', cap', zs, hcs, _, hl, hm, hz, hx, hcell, hwz⟩
  · simp [Value.cells] at hcs
    obtain ⟨rfl, rfl, rfl⟩ := hcs
    exact ⟨none, 0, [], rfl, by simp, by omega, fun k hk => by simp at hk, fun h0 => by simp at h0⟩
  · simp [Value.cells] at hcs
    obtain ⟨rfl, rfl, rfl⟩ := hcs
    have hm2 : zs.length = cap := by rw [hz]; simp
    have hlen : (zs.take len).length = len := by rw [List.length_take]; omega
    have hg : ∀ k, k < len → (zs.take len).getD k 0 = zs.getD k 0 := fun k hk => by simp [List.getD, hk]
    unfold maxLen at hm
    refine ⟨some a, cap, zs.take len, by rw [hlen], by rw [hlen]; exact hl, by omega, fun k hk => ?_, fun h0 => ?_⟩
    · rw [hlen] at hk
      rw [hg k hk]
      exact range_i64 hwz k
    · rw [hlen] at h0
      have s0 := spot_none (hcell 0 (by omega))
      obtain ⟨b, off, sp⟩ := a
      have s1 : sp = none := by
        unfold Addr.add at s0
        simpa using s0
      subst s1
      refine ⟨b, off, rfl, World.block_lt_of_cell? _ _ (hcell 0 (by omega)), fun k hk => ?_⟩
      rw [hlen] at hk
      have := hcell k (by omega)
      rw [add_none] at this
      rw [this, hg k hk]

end Go.Proofs.YtjgkliiofechfaaDoor
