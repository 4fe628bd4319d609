/- The reference: costs of steps, and the ways in which a pitch is sung. -/
import Derived.Test.YtaldbjhalpgkeaaDoorGRefB
namespace Go.Proofs.YtaldbjhalpgkeaaDoor
open Go.RowKit

set_option maxHeartbeats 1000000 in
theorem rcost_any (a b : Sy) (ha : okS a) (hb : okS b) (w : World) : Calls Tryd.prog 71 #[sv a, sv b] w fun e w' => e = .returned (.tuple #[.int .i64 (costS a b).1, .int .i64 (costS a b).2]) ∧ Below w.heap.size w w' := by
  have SM := Lib.hid (fun W => rsmooth_any a b ha hb W)
  have K := Lib.hid (boxesC w a (sO b) 25)
  have L := Lib.hid (boxesD w a b 25)
  unfold costS
  by_cases h : a.1 = b.1
  · rw [if_pos h]
    obtain ⟨a1, a2⟩ := a
    obtain ⟨b1, b2⟩ := b
    simp only at h
    subst h
    clear SM ha hb
    go_enter Tryd.func71, Tryd.ntmps71
    go_wp2_with fail
    go_ret2
    exact ⟨rfl, w_alloc (w_alloc (w_refl w) _) _⟩
  · rw [if_neg h]
    have e1 : (a.1 == b.1) = false := by simp [h]
    generalize smoothB a b = x at *
    cases x with
    | true =>
      go_enter Tryd.func71, Tryd.ntmps71
      go_wp2_with fail
      refine (SM.out _).mono ?_
      rintro e w2 ⟨rfl, hb2⟩
      have hB := Lib.hid (w_below (w_alloc (w_alloc (w_refl w) _) _) hb2)
      clear hb2
      go_wp2_with fail
      go_ret2
      exact ⟨rfl, hB.out⟩
    | false =>
      go_enter Tryd.func71, Tryd.ntmps71
      go_wp2_with fail
      refine (SM.out _).mono ?_
      rintro e w2 ⟨rfl, hb2⟩
      have hB := Lib.hid (w_below (w_alloc (w_alloc (w_refl w) _) _) hb2)
      clear hb2
      go_wp2_with fail
      go_ret2
      exact ⟨rfl, hB.out⟩

/-- The ways ahead of (h, y). -/
def preL (h y : Int) : List Sy := pairsL.filter fun s => decide (s.1 < h ∨ (s.1 = h ∧ s.2 < y))
def wayTo (p : Pi3) (h y : Int) : List Sy := (preL h y).filter fun s => decide (madeS s = p)
theorem pre_next : ∀ h : Fin 7, ∀ y : Fin 6, preL ((h.val : Int) + 1) ((y.val : Int) + 1 + 1) = preL ((h.val : Int) + 1) ((y.val : Int) + 1) ++ [((h.val : Int) + 1, (y.val : Int) + 1)] := by decide +kernel
theorem pre_row : ∀ h : Fin 7, preL ((h.val : Int) + 1 + 1) 1 = preL ((h.val : Int) + 1) 7 := by decide +kernel
theorem way_start (p : Pi3) : wayTo p 1 1 = [] := rfl
theorem way_end (p : Pi3) : wayTo p 8 1 = waysL p := by
  unfold wayTo waysL
  rw [show preL 8 1 = pairsL by decide +kernel]
theorem way_row (p : Pi3) {h : Int} (h1 : 1 ≤ h) (h2 : h ≤ 7) : wayTo p (h + 1) 1 = wayTo p h 7 := by
  have := pre_row ⟨(h - 1).toNat, by omega⟩
  simp only at this
  rw [show (((h - 1).toNat : Nat) : Int) + 1 = h by omega] at this
  unfold wayTo; rw [this]
theorem way_next (p : Pi3) {h y : Int} (h1 : 1 ≤ h) (h2 : h ≤ 7) (y1 : 1 ≤ y) (y2 : y ≤ 6) : wayTo p h (y + 1) = wayTo p h y ++ (if madeS (h, y) = p then [(h, y)] else []) := by
  have := pre_next ⟨(h - 1).toNat, by omega⟩ ⟨(y - 1).toNat, by omega⟩
  simp only at this
  rw [show (((h - 1).toNat : Nat) : Int) + 1 = h by omega, show (((y - 1).toNat : Nat) : Int) + 1 = y by omega] at this
  unfold wayTo
  rw [this, List.filter_append]
  congr 1
  by_cases e : madeS (h, y) = p
  · rw [if_pos e]; simp [e]
  · rw [if_neg e]; simp [e]
theorem way_len (p : Pi3) (h y : Int) : (wayTo p h y).length ≤ 42 := by
  have a : (wayTo p h y).length ≤ (preL h y).length := List.length_filter_le _ _
  have b : (preL h y).length ≤ pairsL.length := List.length_filter_le _ _
  have c : pairsL.length = 42 := by decide
  omega

end Go.Proofs.YtaldbjhalpgkeaaDoor
