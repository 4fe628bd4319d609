/- Arguments that are signs and parts; the rows' laid tables. -/
import Derived.Test.YtcomjcflllfobaaDoorLgOpen
import Derived.Test.YtcomjcflllfobaaDoorSPart
import Derived.Test.YtcomjcflllfobaaDoorRows
import Derived.Lib.SmallJoins
import Derived.Lib.LaidU8
namespace Go.Proofs.YtcomjcflllfobaaDoor
open Go.ChangeShapes Go.WideShapes Go.ChangeAt Go.RowKit Go.Deep Go.Joins

section
variable {H : Type} {enc : TypeId × Value → H} {W : World} {sp : Nat → Bool} {hd : Bool} {b0 : Nat}
set_option maxRecDepth 100000 in
/-- A list of signs within an argument. -/
theorem cells_sigs {fuel : Nat} {v : Value} {x : DataW H × List MemPlace} (hf : DataW.trod enc Tryd.prog W 0 (fun _ => true) true fuel 38 [v] = some x) : ∃ (p : Option Addr) (cap : Nat) (l : List Sg), v = .slice p l.length cap ∧ SlP W 17 p l.length cap (flatG l) := by
  rcases open_slice Tryd.underlying38 hf with ⟨hcs, hx⟩ | ⟨a, len, cap, m, k, D, Pl, hcs, hb, hl, hm, hmm, hx, hall⟩
  · simp at hcs
    subst hcs
    exact ⟨none, 0, [], rfl, by simp [flatG], by simp, by omega, fun _ => rfl, by simp [flatG], fun h0 => by simp at h0⟩
  · simp at hcs
    subst hcs
    have hm2 : m = cap := by rw [hmm]; simp
    have each : ∀ i, i < m → ∃ z : Sg, ∀ j u, (sgL z)[j]? = some u → W.cell? (a.add (i * 17 + j)) = some u := by
      intro i hi
      obtain ⟨cs', h1, h2⟩ := hall i hi
      rw [size_sig4] at h1
      obtain ⟨_, hlen, hcell⟩ := World.cells?_some h1
      obtain ⟨s, hs⟩ := cells_sign h2 hlen
      refine ⟨s, fun j u hj => ?_⟩
      have hj17 : j < 17 := by have := (List.getElem?_eq_some_iff.1 hj).1; rwa [sgL_len] at this
      have e := hcell j hj17
      rw [add_add, hs, hj] at e
      exact e
    obtain ⟨z, hz⟩ := choose_lt each
    have hlen : ((List.range len).map z).length = len := by simp
    have hm' := hm
    unfold maxLen at hm'
    refine ⟨some a, cap, (List.range len).map z, by rw [hlen], flatG_len _, by omega, by omega, fun e => (by cases e), flatG_one _, fun h0 => ?_⟩
    rw [hlen] at h0
    have hz0 := hz 0 (by omega) 0 _ rfl
    obtain ⟨b, off, rfl⟩ := addr_plain4 (by have := spot_none4 hz0; unfold Addr.add at this; simpa using this)
    refine ⟨b, off, rfl, World.block_lt_of_cell? _ _ hz0, fun j u hu => ?_⟩
    have hjl := (List.getElem?_eq_some_iff.1 hu).1
    rw [flatG_len, hlen] at hjl
    have hk : j / 17 < len := by omega
    have hks : ((List.range len).map z)[j / 17]? = some (z (j / 17)) := by rw [List.getElem?_map, List.getElem?_range hk]; rfl
    have hf17 := flatG_at _ (j / 17) _ hks (j % 17) (by omega)
    rw [show j / 17 * 17 + j % 17 = j by omega, hu] at hf17
    have := hz (j / 17) (by omega) (j % 17) u hf17.symm
    rw [add_none, show j / 17 * 17 + j % 17 = j by omega] at this
    exact this


set_option maxRecDepth 100000 in
/-- An argument that is a sign. -/
theorem open_sign {base : Nat} {r : Reach} {v : Value} {d : DataW H} {ps : List MemPlace} (hw : Value.okWide Tryd.prog W r base 27 v)
    (h : DataW.Trod enc Tryd.prog W 0 (fun _ => true) true 27 v d ps) : ∃ s : Sg, v = sgv s := by
  obtain ⟨cs, rfl, hsz⟩ := okWide_struct Tryd.underlying27 hw
  obtain ⟨fuel, hf⟩ := h
  obtain ⟨s, hs⟩ := cells_sign hf (by rw [size_sig4] at hsz; show cs.toList.length = 17; rw [Array.length_toList]; exact hsz)
  refine ⟨s, ?_⟩
  have : cs.toList = (sgA s).toList := hs
  unfold sgv
  rw [Array.toList_inj.1 this]
set_option maxRecDepth 100000 in
/-- An argument that is a part. -/
theorem open_part {base : Nat} {r : Reach} {v : Value} {d : DataW H} {ps : List MemPlace} (hw : Value.okWide Tryd.prog W r base 40 v)
    (h : DataW.Trod enc Tryd.prog W 0 (fun _ => true) true 40 v d ps) : ∃ (nm : ByteArray) (p : Option Addr) (cap : Nat) (l : List Sg), v = ptv nm p l.length cap ∧ nm.size ≤ maxLen ∧ SlP W 17 p l.length cap (flatG l) := by
  obtain ⟨v0, v1, y0, y1, n, rfl, _, _, h0, h1⟩ := open_agg2 Tryd.underlying40 (by kernel_rfl) (by kernel_rfl) hw h
  obtain ⟨s, e0, _, hs⟩ := DataW.trod_string Tryd.underlying9 h0
  simp only [List.cons.injEq, and_true] at e0
  subst e0
  obtain ⟨p, cap, l, rfl, hp⟩ := cells_sigs h1
  exact ⟨s, p, cap, l, rfl, hs, hp⟩
end

set_option maxRecDepth 100000 in
theorem tabs_laid {W : World} (hL : laidMetH Tryd.prog Rows.signOnesRow.laid W) : TabS W := by
  have h : laidMet Tryd.prog Rows.signOnesRow.laid W := hL
  exact tabs_of (Lib.laidMet.reads h (.head _)) (Lib.laidMet.reads h (.tail _ (.head _)))

end Go.Proofs.YtcomjcflllfobaaDoor
