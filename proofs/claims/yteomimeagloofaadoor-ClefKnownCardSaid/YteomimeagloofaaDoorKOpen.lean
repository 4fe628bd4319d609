/- Arguments that are lists of pitches and of numbers, as the walks read them. -/
import Derived.Test.YteomimeagloofaaDoorKPit
import Derived.Deep.SlicePairs
import Derived.WideOpen
import Derived.OpenShut
import Derived.Deep.DeepHandedRow
import Derived.Lib.SmallJoins
namespace Go.Proofs.YteomimeagloofaaDoor
open Go.ChangeShapes Go.WideShapes Go.ChangeAt Go.RowKit Go.Deep

theorem spot_none4 {w : World} {a : Addr} {v : Value} (h : w.cell? a = some v) : a.spot = none := by
  unfold World.cell? at h
  split at h
  · split at h
    · cases h
    · rename_i h2; simpa using h2
  · cases h
theorem addr_plain4 {a : Addr} (h : a.spot = none) : ∃ b off, a = ⟨b, off, none⟩ := by
  obtain ⟨b, off, sp⟩ := a
  obtain rfl : sp = none := h
  exact ⟨b, off, rfl⟩
theorem add_zero4 (a : Addr) (n : Nat) : a.add (0 * n) = a := by rw [Nat.zero_mul]; rfl
theorem three_of4 {α : Type} {l : List α} (h : l.length = 3) : ∃ a b c, l = [a, b, c] := by
  match l, h with
  | [a, b, c], _ => exact ⟨a, b, c, rfl⟩

theorem size_pitch4 : Tryd.prog.cellsOf 25 = 3 := by kernel_rfl
theorem size_int4 : Tryd.prog.cellsOf 3 = 1 := by kernel_rfl

theorem flatP_idx (l : List Pi3) (j : Nat) (u : Value) (h : (flatP l)[j]? = some u) : ∃ k, k < l.length ∧ ((j = k * 3 ∧ u = .int .i64 (l.getD k (0, 0, 0)).1) ∨ (j = k * 3 + 1 ∧ u = .int .i64 (l.getD k (0, 0, 0)).2.1) ∨ (j = k * 3 + 2 ∧ u = .int .i64 (l.getD k (0, 0, 0)).2.2)) := by
  have hj := (List.getElem?_eq_some_iff.1 h).1
  rw [flatP_len] at hj
  have hk : j / 3 < l.length := by omega
  have hs : l[j / 3]? = some (l.getD (j / 3) (0, 0, 0)) := by simp [List.getElem?_eq_getElem hk]
  obtain ⟨e0, e1, e2⟩ := flatP_at l (j / 3) _ hs
  refine ⟨j / 3, hk, ?_⟩
  have h3 : j % 3 = 0 ∨ j % 3 = 1 ∨ j % 3 = 2 := by omega
  rcases h3 with h3 | h3 | h3
  · left
    have e : j = j / 3 * 3 := by omega
    refine ⟨e, ?_⟩
    rw [← e, h] at e0; exact Option.some.inj e0
  · right; left
    have e : j = j / 3 * 3 + 1 := by omega
    refine ⟨e, ?_⟩
    rw [← e, h] at e1; exact Option.some.inj e1
  · right; right
    have e : j = j / 3 * 3 + 2 := by omega
    refine ⟨e, ?_⟩
    rw [← e, h] at e2; exact Option.some.inj e2

section
variable {H : Type} {enc : TypeId × Value → H} {W : World}

set_option maxRecDepth 100000 in
/-- An argument that is a list of pitches. -/
theorem open_pits {base : Nat} {r : Reach} {v : Value} {d : DataW H} {ps : List MemPlace} (hw : Value.okWide Tryd.prog W r base 38 v)
    (h : DataW.Trod enc Tryd.prog W 0 (fun _ => true) true 38 v d ps) : ∃ (p : Option Addr) (cap : Nat) (l : List Pi3), v = .slice p l.length cap ∧ SlP W 3 p l.length cap (flatP l) := by
  obtain ⟨a0, len, cap, rfl⟩ := okWide_slice Tryd.underlying38 hw
  obtain ⟨fuel, hf⟩ := h
  rcases open_slice Tryd.underlying38 hf with ⟨hcs, hx⟩ | ⟨a, len', cap', m, k, D, Pl, hcs, hb, hl, hm, hmm, hx, hall⟩
  · simp [Value.cells] at hcs
    obtain ⟨rfl, rfl, rfl⟩ := hcs
    exact ⟨none, 0, [], rfl, by simp [flatP], by simp, by omega, fun _ => rfl, by simp [flatP], fun h0 => by simp at h0⟩
  · simp [Value.cells] at hcs
    obtain ⟨rfl, rfl, rfl⟩ := hcs
    have hm2 : m = cap := by rw [hmm]; simp
    have each : ∀ i, i < m → ∃ z : Pi3, W.cell? (a.add (i * 3)) = some (.int .i64 z.1) ∧ W.cell? (a.add (i * 3 + 1)) = some (.int .i64 z.2.1) ∧ W.cell? (a.add (i * 3 + 2)) = some (.int .i64 z.2.2) := by
      intro i hi
      obtain ⟨cs', h1, h2⟩ := hall i hi
      rw [size_pitch4] at h1
      obtain ⟨_, hlen, hcell⟩ := World.cells?_some h1
      obtain ⟨xs, k, hk, hxy, _, hxl, hf⟩ := DataW.trod_struct Tryd.underlying25 h2
      obtain ⟨v0, v1, v2, rfl⟩ := three_of4 hlen
      obtain ⟨y0, y1, y2, rfl⟩ := three_of4 (show xs.length = 3 from hxl)
      have g0 := hf 0 _ rfl
      have g1 := hf 1 _ rfl
      have g2 := hf 2 _ rfl
      simp [size_int4] at g0 g1 g2
      have e0 := hcell 0 (by omega)
      have e1 := hcell 1 (by omega)
      have e2 := hcell 2 (by omega)
      rw [add_add] at e0 e1 e2
      obtain ⟨x, ex, _, _⟩ := DataW.trod_int Tryd.underlying3 g0
      obtain ⟨t, et, _, _⟩ := DataW.trod_int Tryd.underlying3 g1
      obtain ⟨q, eq, _, _⟩ := DataW.trod_int Tryd.underlying3 g2
      simp only [List.cons.injEq, and_true] at ex et eq
      subst ex et eq
      exact ⟨(x, t, q), by simpa using e0, by simpa using e1, by simpa using e2⟩
    obtain ⟨z, hz⟩ := choose_lt each
    have hlen : ((List.range len).map z).length = len := by simp
    have hgetD : ∀ k, k < len → ((List.range len).map z).getD k (0, 0, 0) = z k := fun k hk => by simp [hk]
    have hm' := hm
    unfold maxLen at hm'
    refine ⟨some a, cap, (List.range len).map z, by rw [hlen], flatP_len _, by omega, by omega, fun e => (by cases e), flatP_one _, fun h0 => ?_⟩
    rw [hlen] at h0
    obtain ⟨b, off, rfl⟩ := addr_plain4 (by have := spot_none4 (hz 0 (by omega)).1; rwa [add_zero4] at this)
    refine ⟨b, off, rfl, World.block_lt_of_cell? _ _ (hz 0 (by omega)).1, fun j u hu => ?_⟩
    obtain ⟨k, hk, hc⟩ := flatP_idx _ j u hu
    rw [hlen] at hk
    rw [hgetD k hk] at hc
    obtain ⟨z0, z1, z2⟩ := hz k (by omega)
    rw [add_none] at z0 z1 z2
    rcases hc with ⟨rfl, rfl⟩ | ⟨rfl, rfl⟩ | ⟨rfl, rfl⟩
    · exact z0
    · exact z1
    · exact z2

set_option maxRecDepth 100000 in
/-- An argument that is a list of numbers. -/
theorem open_nums {base : Nat} {r : Reach} {v : Value} {d : DataW H} {ps : List MemPlace} (hw : Value.okWide Tryd.prog W r base 48 v)
    (h : DataW.Trod enc Tryd.prog W 0 (fun _ => true) true 48 v d ps) : ∃ (p : Option Addr) (cap : Nat) (l : List Int), v = .slice p l.length cap ∧ SlP W 1 p l.length cap (ints l) ∧ ∀ z ∈ l, -9223372036854775808 ≤ z ∧ z ≤ 9223372036854775807 := by
  obtain ⟨a0, len, cap, rfl⟩ := okWide_slice Tryd.underlying48 hw
  obtain ⟨fuel, hf⟩ := h
  rcases open_ints Tryd.underlying48 Tryd.underlying3 size_int4 hf with ⟨hcs, hx⟩ | ⟨a, len', cap', zs, hcs, _, hl, hm, hz, hx, hcell, hwz⟩
  · simp [Value.cells] at hcs
    obtain ⟨rfl, rfl, rfl⟩ := hcs
    exact ⟨none, 0, [], rfl, ⟨by simp [ints], by simp, by omega, fun _ => rfl, by simp [ints], fun h0 => by simp at h0⟩, by simp⟩
  · simp [Value.cells] at hcs
    obtain ⟨rfl, rfl, rfl⟩ := hcs
    have hm2 : zs.length = cap := by rw [hz]; simp
    have hlen : (zs.take len).length = len := by rw [List.length_take]; omega
    unfold maxLen at hm
    refine ⟨some a, cap, zs.take len, by rw [hlen], ⟨by simp [ints], by rw [hlen]; exact hl, by omega, fun e => (by cases e), fun u hu => ?_, fun h0 => ?_⟩, fun z hz' => ?_⟩
    · obtain ⟨z, _, rfl⟩ := List.mem_map.1 hu
      rfl
    · rw [hlen] at h0
      obtain ⟨b, off, rfl⟩ := addr_plain4 (by have := spot_none4 (hcell 0 (by omega)); unfold Addr.add at this; simpa using this)
      refine ⟨b, off, rfl, World.block_lt_of_cell? _ _ (hcell 0 (by omega)), fun j u hu => ?_⟩
      rw [ints, List.getElem?_map] at hu
      cases hj : (zs.take len)[j]? with
      | none => rw [hj] at hu; cases hu
      | some z =>
        rw [hj] at hu
        have hu := Option.some.inj hu
        subst hu
        have hjl := (List.getElem?_eq_some_iff.1 hj).1
        rw [hlen] at hjl
        have := hcell j (by omega)
        rw [add_none] at this
        rw [this]
        have e : zs.getD j 0 = z := by
          rw [List.getElem?_take_of_lt hjl] at hj
          simp [List.getD, hj]
        rw [e]
    · obtain ⟨j, hj, rfl⟩ := List.getElem_of_mem hz'
      rw [hlen] at hj
      have := range_i64 hwz j
      rw [List.getElem_take]
      have e : zs[j]?.getD 0 = zs[j]'(by omega) := by simp [List.getElem?_eq_getElem (show j < zs.length by omega)]
      rw [e] at this
      exact this
end

end Go.Proofs.YteomimeagloofaaDoor
