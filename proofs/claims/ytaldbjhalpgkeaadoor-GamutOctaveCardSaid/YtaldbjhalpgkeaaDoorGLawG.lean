/- The statements' own examples of names. -/
import Derived.Test.YtaldbjhalpgkeaaDoorGLawE
namespace Go.Proofs.YtaldbjhalpgkeaaDoor
open Go.RowKit

def namB : List ByteArray := [⟨#[71, 97, 109, 109, 97, 32, 117, 116]⟩, ⟨#[65, 32, 114, 101]⟩, ⟨#[66, 32, 109, 105]⟩, ⟨#[67, 32, 102, 97, 32, 117, 116]⟩, ⟨#[68, 32, 115, 111, 108, 32, 114, 101]⟩, ⟨#[69, 32, 108, 97, 32, 109, 105]⟩, ⟨#[70, 32, 102, 97, 32, 117, 116]⟩, ⟨#[71, 32, 115, 111, 108, 32, 114, 101, 32, 117, 116]⟩, ⟨#[97, 32, 108, 97, 32, 109, 105, 32, 114, 101]⟩, ⟨#[98, 32, 102, 97, 32, 98, 32, 109, 105]⟩, ⟨#[99, 32, 115, 111, 108, 32, 102, 97, 32, 117, 116]⟩, ⟨#[100, 32, 108, 97, 32, 115, 111, 108, 32, 114, 101]⟩, ⟨#[101, 32, 108, 97, 32, 109, 105]⟩, ⟨#[102, 32, 102, 97, 32, 117, 116]⟩, ⟨#[103, 32, 115, 111, 108, 32, 114, 101, 32, 117, 116]⟩, ⟨#[97, 97, 32, 108, 97, 32, 109, 105, 32, 114, 101]⟩, ⟨#[98, 98, 32, 102, 97, 32, 98, 98, 32, 109, 105]⟩, ⟨#[99, 99, 32, 115, 111, 108, 32, 102, 97]⟩, ⟨#[100, 100, 32, 108, 97, 32, 115, 111, 108]⟩, ⟨#[101, 101, 32, 108, 97]⟩]
theorem namB_at : ∀ k : Fin 20, namB[k.val]? = some (nameV k.val).1 ∧ (nameV k.val).2 = 0 := by decide +kernel
theorem namB_20 : (nameV 20).2 = 2 := by decide +kernel
theorem namB_one : ∀ k : Nat, ∀ s, namB[k]? = some s → ((namB.map Value.string).toArray).toList[k]? = some (.string s) := by
  intro k s h
  rw [List.toList_toArray, List.getElem?_map, h]; rfl

/-- What stands while the names are read. -/
structure FrN (w W : World) : Prop where
  bel : Below w.heap.size w W
  cells : ∀ k s, namB[k]? = some s → W.cell? ⟨w.heap.size, 0 + k, none⟩ = some (.string s)
theorem FrN.later {w W W' : World} (h : FrN w W) (k : Below W.heap.size W W') : FrN w W' := ⟨w_below h.bel k, fun j s e => cell_later k (h.cells j s e)⟩
theorem FrN.start (w : World) (t : TypeId) : FrN w (w.alloc (.cells (namB.map Value.string).toArray t)) :=
  ⟨w_alloc (w_refl w) _, fun k s e => by
    have := lit_new w (namB.map Value.string).toArray t k _ (namB_one k s e)
    rwa [add_none] at this⟩

set_option maxRecDepth 100000 in
set_option maxHeartbeats 4000000 in
theorem named_any (w : World) (tab : TabG w) : Calls Tryd.prog 29 #[] w fun e w' => e = .returned (.bool true) ∧ Below w.heap.size w w' := by
  have TB := Lib.hid (fun W (b : Below w.heap.size w W) => tab.later b)
  clear tab
  have NM := Lib.hid (fun n W b => wname_any n W (TB.out W b))
  have F0 := Lib.hid (FrN.start w 9)
  go_enter Tryd.func29, Tryd.ntmps29
  go_wp2_with fail
  go_loopw [2] (fun i wr => ∃ k : Nat, k ≤ 20 ∧ i = .int .i64 k ∧ Hid (FrN w wr)) (fun i _ => 20 - (intOf i).toNat)
  case atStart => exact ⟨0, by omega, rfl, F0⟩
  case round =>
    obtain ⟨k, hk, rfl, hF⟩ := hrel
    by_cases hlt : k < 20
    · have hlt' : (k : Int) < 20 := by omega
      obtain ⟨h1, h2⟩ := namB_at ⟨k, hlt⟩
      simp only at h1 h2
      have C := Lib.hid (fun W b => NM.out k W b)
      rw [h2] at C
      have P := Lib.hid h1
      clear h1 h2
      generalize (nameV (k : Int)).1 = s at *
      go_wp2_with fail
      refine (C.out _ hF.out.bel).mono ?_
      rintro e w1 ⟨rfl, hb⟩
      have F1 := Lib.hid (hF.out.later hb)
      have c0 := F1.out.cells k s P.out
      rw [Nat.zero_add] at c0
      clear hb hF C
      go_wp2_with fail
      go_roundw
      case rel => exact ⟨k + 1, by omega, by go_num, F1⟩
      case measure => simp [intOf]; omega
    · obtain rfl : k = 20 := by omega
      have C := Lib.hid (fun W b => NM.out 20 W b)
      rw [namB_20] at C
      go_wp2_with fail
      refine (C.out _ hF.out.bel).mono ?_
      rintro e w1 ⟨rfl, hb⟩
      have F1 := Lib.hid (hF.out.later hb)
      clear hb hF C
      go_wp2_with fail
      go_ret
      exact ⟨rfl, F1.out.bel⟩

end Go.Proofs.YtaldbjhalpgkeaaDoor
