/- Arguments that are lists of signs and of numbers, as the walks read them. -/
import Derived.Test.YthokapebcplmkaaLgMem
import Derived.Deep.SlicePairs
import Derived.WideOpen
import Derived.OpenShut
import Derived.Deep.DeepHandedRow
import Derived.Lib.SmallJoins
namespace Go.Proofs.Ythokapebcplmkaa
open Go.ChangeShapes Go.WideShapes Go.ChangeAt Go.RowKit Go.Deep

theorem spot_none4 {w : World} {a : Addr} {v : Value} (h : w.cell? a = some v) : a.spot = none := by
  unfold World.cell? at h
  split at h
  · split at h
    · cases h
    · rename_i h2; simpa using h2
  · cases h
theorem addr_plain4 {a : Addr} (h : a.spot = none) : ∃ b off, a = ⟨b, off, none⟩ := by
  obtain ⟨b, off, sp⟩ := a
  obtain rfl : sp = none := h
  exact ⟨b, off, rfl⟩
theorem add_zero4 (a : Addr) (n : Nat) : a.add (0 * n) = a := by rw [Nat.zero_mul]; rfl
theorem three_of4 {α : Type} {l : List α} (h : l.length = 3) : ∃ a b c, l = [a, b, c] := by
  match l, h with
  | [a, b, c], _ => exact ⟨a, b, c, rfl⟩

theorem list17 {α : Type} {l : List α} (h : l.length = 17) : ∃ v0 v1 v2 v3 v4 v5 v6 v7 v8 v9 v10 v11 v12 v13 v14 v15 v16, l = [v0, v1, v2, v3, v4, v5, v6, v7, v8, v9, v10, v11, v12, v13, v14, v15, v16] := by
  match l, h with
  | [v0, v1, v2, v3, v4, v5, v6, v7, v8, v9, v10, v11, v12, v13, v14, v15, v16], _ => exact ⟨v0, v1, v2, v3, v4, v5, v6, v7, v8, v9, v10, v11, v12, v13, v14, v15, v16, rfl⟩
theorem size_sig4 : Try.prog.cellsOf 51 = 17 := by kernel_rfl
theorem size_int4 : Try.prog.cellsOf 3 = 1 := by kernel_rfl
theorem size_bool4 : Try.prog.cellsOf 4 = 1 := by kernel_rfl
theorem size_mens4 : Try.prog.cellsOf 23 = 4 := by kernel_rfl
theorem size_clef4 : Try.prog.cellsOf 49 = 2 := by kernel_rfl
theorem xs_some {α : Type} {xs : List α} {n i : Nat} (h : xs.length = n) (hi : i < n) : ∃ x, xs[i]? = some x := ⟨xs[i]'(by omega), List.getElem?_eq_getElem _⟩

section
variable {H : Type} {enc : TypeId × Value → H} {W : World} {sp : Nat → Bool} {hd : Bool} {b0 : Nat}
theorem cells_mens {fuel : Nat} {v0 v1 v2 v3 : Value} {x : DataW H × List MemPlace} (h : DataW.trod enc Try.prog W b0 sp hd fuel 23 [v0, v1, v2, v3] = some x) :
    ∃ a b c d : Int, v0 = .int .i64 a ∧ v1 = .int .i64 b ∧ v2 = .int .i64 c ∧ v3 = .int .i64 d := by
  obtain ⟨xs, k, hk, hxy, _, hxl, hf⟩ := DataW.trod_struct Try.underlying23 h
  have hxl : xs.length = 4 := hxl
  obtain ⟨y0, e0⟩ := xs_some hxl (show 0 < 4 by decide)
  have g0 := hf 0 _ rfl
  rw [e0] at g0
  simp [size_int4] at g0
  obtain ⟨a0, h0, _, _⟩ := DataW.trod_int Try.underlying3 g0
  simp only [List.cons.injEq, and_true] at h0
  obtain ⟨y1, e1⟩ := xs_some hxl (show 1 < 4 by decide)
  have g1 := hf 1 _ rfl
  rw [e1] at g1
  simp [size_int4] at g1
  obtain ⟨a1, h1, _, _⟩ := DataW.trod_int Try.underlying3 g1
  simp only [List.cons.injEq, and_true] at h1
  obtain ⟨y2, e2⟩ := xs_some hxl (show 2 < 4 by decide)
  have g2 := hf 2 _ rfl
  rw [e2] at g2
  simp [size_int4] at g2
  obtain ⟨a2, h2, _, _⟩ := DataW.trod_int Try.underlying3 g2
  simp only [List.cons.injEq, and_true] at h2
  obtain ⟨y3, e3⟩ := xs_some hxl (show 3 < 4 by decide)
  have g3 := hf 3 _ rfl
  rw [e3] at g3
  simp [size_int4] at g3
  obtain ⟨a3, h3, _, _⟩ := DataW.trod_int Try.underlying3 g3
  simp only [List.cons.injEq, and_true] at h3
  exact ⟨a0, a1, a2, a3, h0, h1, h2, h3⟩
theorem cells_clef {fuel : Nat} {v0 v1 : Value} {x : DataW H × List MemPlace} (h : DataW.trod enc Try.prog W b0 sp hd fuel 49 [v0, v1] = some x) :
    ∃ a b : Int, v0 = .int .i64 a ∧ v1 = .int .i64 b := by
  obtain ⟨xs, k, hk, hxy, _, hxl, hf⟩ := DataW.trod_struct Try.underlying49 h
  have hxl : xs.length = 2 := hxl
  obtain ⟨y0, e0⟩ := xs_some hxl (show 0 < 2 by decide)
  have g0 := hf 0 _ rfl
  rw [e0] at g0
  simp [size_int4] at g0
  obtain ⟨a0, h0, _, _⟩ := DataW.trod_int Try.underlying3 g0
  simp only [List.cons.injEq, and_true] at h0
  obtain ⟨y1, e1⟩ := xs_some hxl (show 1 < 2 by decide)
  have g1 := hf 1 _ rfl
  rw [e1] at g1
  simp [size_int4] at g1
  obtain ⟨a1, h1, _, _⟩ := DataW.trod_int Try.underlying3 g1
  simp only [List.cons.injEq, and_true] at h1
  exact ⟨a0, a1, h0, h1⟩
set_option maxRecDepth 100000 in
set_option maxHeartbeats 4000000 in
theorem cells_sign {fuel : Nat} {cs : List Value} {x : DataW H × List MemPlace} (h : DataW.trod enc Try.prog W b0 sp hd fuel 51 cs = some x) (hl : cs.length = 17) : ∃ s : Sg, cs = sgL s := by
  obtain ⟨xs, k, hk, hxy, _, hxl, hf⟩ := DataW.trod_struct Try.underlying51 h
  have hxl : xs.length = 13 := hxl
  obtain ⟨v0, v1, v2, v3, v4, v5, v6, v7, v8, v9, v10, v11, v12, v13, v14, v15, v16, rfl⟩ := list17 hl
  clear hxy h hl
  obtain ⟨y0, e0⟩ := xs_some hxl (show 0 < 13 by decide)
  have g0 := hf 0 _ rfl
  rw [e0] at g0
  simp [size_int4] at g0
  obtain ⟨a0, h0, _, _⟩ := DataW.trod_int Try.underlying3 g0
  simp only [List.cons.injEq, and_true] at h0
  clear g0 e0
  obtain ⟨y1, e1⟩ := xs_some hxl (show 1 < 13 by decide)
  have g1 := hf 1 _ rfl
  rw [e1] at g1
  simp [size_int4] at g1
  obtain ⟨a1, h1, _, _⟩ := DataW.trod_int Try.underlying3 g1
  simp only [List.cons.injEq, and_true] at h1
  clear g1 e1
  obtain ⟨y2, e2⟩ := xs_some hxl (show 2 < 13 by decide)
  have g2 := hf 2 _ rfl
  rw [e2] at g2
  simp [size_int4] at g2
  obtain ⟨a2, h2, _, _⟩ := DataW.trod_int Try.underlying3 g2
  simp only [List.cons.injEq, and_true] at h2
  clear g2 e2
  obtain ⟨y3, e3⟩ := xs_some hxl (show 3 < 13 by decide)
  have g3 := hf 3 _ rfl
  rw [e3] at g3
  simp [size_int4] at g3
  obtain ⟨a3, h3, _, _⟩ := DataW.trod_int Try.underlying3 g3
  simp only [List.cons.injEq, and_true] at h3
  clear g3 e3
  obtain ⟨y4, e4⟩ := xs_some hxl (show 4 < 13 by decide)
  have g4 := hf 4 _ rfl
  rw [e4] at g4
  simp [size_bool4] at g4
  obtain ⟨a4, h4, _⟩ := DataW.trod_bool Try.underlying4 g4
  simp only [List.cons.injEq, and_true] at h4
  clear g4 e4
  obtain ⟨y5, e5⟩ := xs_some hxl (show 5 < 13 by decide)
  have g5 := hf 5 _ rfl
  rw [e5] at g5
  simp [size_int4] at g5
  obtain ⟨a5, h5, _, _⟩ := DataW.trod_int Try.underlying3 g5
  simp only [List.cons.injEq, and_true] at h5
  clear g5 e5
  obtain ⟨y6, e6⟩ := xs_some hxl (show 6 < 13 by decide)
  have g6 := hf 6 _ rfl
  rw [e6] at g6
  simp [size_bool4] at g6
  obtain ⟨a6, h6, _⟩ := DataW.trod_bool Try.underlying4 g6
  simp only [List.cons.injEq, and_true] at h6
  clear g6 e6
  obtain ⟨y7, e7⟩ := xs_some hxl (show 7 < 13 by decide)
  have g7 := hf 7 _ rfl
  rw [e7] at g7
  simp [size_bool4] at g7
  obtain ⟨a7, h7, _⟩ := DataW.trod_bool Try.underlying4 g7
  simp only [List.cons.injEq, and_true] at h7
  clear g7 e7
  obtain ⟨y8, e8⟩ := xs_some hxl (show 8 < 13 by decide)
  have g8 := hf 8 _ rfl
  rw [e8] at g8
  simp [size_mens4] at g8
  obtain ⟨m0, m1, m2, m3, k0, k1, k2, k3⟩ := cells_mens g8
  clear g8 e8
  obtain ⟨y9, e9⟩ := xs_some hxl (show 9 < 13 by decide)
  have g9 := hf 9 _ rfl
  rw [e9] at g9
  simp [size_bool4] at g9
  obtain ⟨a9, h9, _⟩ := DataW.trod_bool Try.underlying4 g9
  simp only [List.cons.injEq, and_true] at h9
  clear g9 e9
  obtain ⟨y10, e10⟩ := xs_some hxl (show 10 < 13 by decide)
  have g10 := hf 10 _ rfl
  rw [e10] at g10
  simp [size_int4] at g10
  obtain ⟨a10, h10, _, _⟩ := DataW.trod_int Try.underlying3 g10
  simp only [List.cons.injEq, and_true] at h10
  clear g10 e10
  obtain ⟨y11, e11⟩ := xs_some hxl (show 11 < 13 by decide)
  have g11 := hf 11 _ rfl
  rw [e11] at g11
  simp [size_int4] at g11
  obtain ⟨a11, h11, _, _⟩ := DataW.trod_int Try.underlying3 g11
  simp only [List.cons.injEq, and_true] at h11
  clear g11 e11
  obtain ⟨y12, e12⟩ := xs_some hxl (show 12 < 13 by decide)
  have g12 := hf 12 _ rfl
  rw [e12] at g12
  simp [size_clef4] at g12
  obtain ⟨c0, c1, j0, j1⟩ := cells_clef g12
  clear g12 e12
  refine ⟨⟨a0, a1, a2, a3, a4, a5, a6, a7, m0, m1, m2, m3, a9, a10, a11, c0, c1⟩, ?_⟩
  rw [h0, h1, h2, h3, h4, h5, h6, h7, k0, k1, k2, k3, h9, h10, h11, j0, j1]; rfl

instance : Inhabited Sg := ⟨⟨0, 0, 0, 0, false, 0, false, false, 0, 0, 0, 0, false, 0, 0, 0, 0⟩⟩
set_option maxRecDepth 100000 in
/-- An argument that is a list of signs. -/
theorem open_sigs {base : Nat} {r : Reach} {v : Value} {d : DataW H} {ps : List MemPlace} (hw : Value.okWide Try.prog W r base 24 v)
    (h : DataW.Trod enc Try.prog W 0 (fun _ => true) true 24 v d ps) : ∃ (p : Option Addr) (cap : Nat) (l : List Sg), v = .slice p l.length cap ∧ SlP W 17 p l.length cap (flatG l) := by
  obtain ⟨a0, len, cap, rfl⟩ := okWide_slice Try.underlying24 hw
  obtain ⟨fuel, hf⟩ := h
  rcases open_slice Try.underlying24 hf with ⟨hcs, hx⟩ | ⟨a, len', cap', m, k, D, Pl, hcs, hb, hl, hm, hmm, hx, hall⟩
  · simp [Value.cells] at hcs
    obtain ⟨rfl, rfl, rfl⟩ := hcs
    exact ⟨none, 0, [], rfl, by simp [flatG], by simp, by omega, fun _ => rfl, by simp [flatG], fun h0 => by simp at h0⟩
  · simp [Value.cells] at hcs
    obtain ⟨rfl, rfl, rfl⟩ := hcs
    have hm2 : m = cap := by rw [hmm]; simp
    have each : ∀ i, i < m → ∃ z : Sg, ∀ j u, (sgL z)[j]? = some u → W.cell? (a.add (i * 17 + j)) = some u := by
      intro i hi
      obtain ⟨cs', h1, h2⟩ := hall i hi
      rw [size_sig4] at h1
      obtain ⟨_, hlen, hcell⟩ := World.cells?_some h1
      obtain ⟨s, hs⟩ := cells_sign h2 hlen
      refine ⟨s, fun j u hj => ?_⟩
      have hj17 : j < 17 := by have := (List.getElem?_eq_some_iff.1 hj).1; rwa [sgL_len] at this
      have e := hcell j hj17
      rw [add_add, hs, hj] at e
      exact e
    obtain ⟨z, hz⟩ := choose_lt each
    have hlen : ((List.range len).map z).length = len := by simp
    have hm' := hm
    unfold maxLen at hm'
    refine ⟨some a, cap, (List.range len).map z, by rw [hlen], flatG_len _, by omega, by omega, fun e => (by cases e), flatG_one _, fun h0 => ?_⟩
    rw [hlen] at h0
    have hz0 := hz 0 (by omega) 0 _ rfl
    obtain ⟨b, off, rfl⟩ := addr_plain4 (by have := spot_none4 hz0; unfold Addr.add at this; simpa using this)
    refine ⟨b, off, rfl, World.block_lt_of_cell? _ _ hz0, fun j u hu => ?_⟩
    have hjl := (List.getElem?_eq_some_iff.1 hu).1
    rw [flatG_len, hlen] at hjl
    have hk : j / 17 < len := by omega
    have hks : ((List.range len).map z)[j / 17]? = some (z (j / 17)) := by rw [List.getElem?_map, List.getElem?_range hk]; rfl
    have hf17 := flatG_at _ (j / 17) _ hks (j % 17) (by omega)
    rw [show j / 17 * 17 + j % 17 = j by omega, hu] at hf17
    have := hz (j / 17) (by omega) (j % 17) u hf17.symm
    rw [add_none, show j / 17 * 17 + j % 17 = j by omega] at this
    exact this

set_option maxRecDepth 100000 in
/-- An argument that is a list of numbers. -/
theorem open_nums {base : Nat} {r : Reach} {v : Value} {d : DataW H} {ps : List MemPlace} (hw : Value.okWide Try.prog W r base 32 v)
    (h : DataW.Trod enc Try.prog W 0 (fun _ => true) true 32 v d ps) : ∃ (p : Option Addr) (cap : Nat) (l : List Int), v = .slice p l.length cap ∧ SlP W 1 p l.length cap (ints l) ∧ ∀ z ∈ l, -9223372036854775808 ≤ z ∧ z ≤ 9223372036854775807 := by
  obtain ⟨a0, len, cap, rfl⟩ := okWide_slice Try.underlying32 hw
  obtain ⟨fuel, hf⟩ := h
  rcases open_ints Try.underlying32 Try.underlying3 size_int4 hf with ⟨hcs, hx⟩ | ⟨a, len', cap', zs, hcs, _, hl, hm, hz, hx, hcell, hwz⟩
  · simp [Value.cells] at hcs
    obtain ⟨rfl, rfl, rfl⟩ := hcs
    exact ⟨none, 0, [], rfl, ⟨by simp [ints], by simp, by omega, fun _ => rfl, by simp [ints], fun h0 => by simp at h0⟩, by simp⟩
  · simp [Value.cells] at hcs
    obtain ⟨rfl, rfl, rfl⟩ := hcs
    have hm2 : zs.length = cap := by rw [hz]; simp
    have hlen : (zs.take len).length = len := by rw [List.length_take]; omega
    unfold maxLen at hm
    refine ⟨some a, cap, zs.take len, by rw [hlen], ⟨by simp [ints], by rw [hlen]; exact hl, by omega, fun e => (by cases e), fun u hu => ?_, fun h0 => ?_⟩, fun z hz' => ?_⟩
    · obtain ⟨z, _, rfl⟩ := List.mem_map.1 hu
      rfl
    · rw [hlen] at h0
      obtain ⟨b, off, rfl⟩ := addr_plain4 (by have := spot_none4 (hcell 0 (by omega)); unfold Addr.add at this; simpa using this)
      refine ⟨b, off, rfl, World.block_lt_of_cell? _ _ (hcell 0 (by omega)), fun j u hu => ?_⟩
      rw [ints, List.getElem?_map] at hu
      cases hj : (zs.take len)[j]? with
      | none => rw [hj] at hu; cases hu
      | some z =>
        rw [hj] at hu
        have hu := Option.some.inj hu
        subst hu
        have hjl := (List.getElem?_eq_some_iff.1 hj).1
        rw [hlen] at hjl
        have := hcell j (by omega)
        rw [add_none] at this
        rw [this]
        have e : zs.getD j 0 = z := by
          rw [List.getElem?_take_of_lt hjl] at hj
          simp [List.getD, hj]
        rw [e]
    · obtain ⟨j, hj, rfl⟩ := List.getElem_of_mem hz'
      rw [hlen] at hj
      have := range_i64 hwz j
      rw [List.getElem_take]
      have e : zs[j]?.getD 0 = zs[j]'(by omega) := by simp [List.getElem?_eq_getElem (show j < zs.length by omega)]
      rw [e] at this
      exact this
end

end Go.Proofs.Ythokapebcplmkaa
