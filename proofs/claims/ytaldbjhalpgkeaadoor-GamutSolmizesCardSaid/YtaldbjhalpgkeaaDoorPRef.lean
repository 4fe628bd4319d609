/- The reference's functions on pitches, for all arguments. -/
import Derived.Test.YtaldbjhalpgkeaaDoorPSpec
namespace Go.Proofs.YtaldbjhalpgkeaaDoor
open Go.RowKit

set_option maxHeartbeats 1000000 in
theorem rcheck_any (p : Pi3) (w : World) : Calls Tryd.prog 44 #[pv p] w fun e w' => e = .returned (.int .i64 (chkV p)) ∧ Below w.heap.size w w' := by
  have hc : (chkV p = 2 ∧ ¬ okP p) ∨ (chkV p = 0 ∧ okP p) := by
    by_cases h : okP p
    · exact .inr ⟨if_pos h, h⟩
    · exact .inl ⟨if_neg h, h⟩
  obtain ⟨s, o, a⟩ := p
  rcases hc with ⟨e, h⟩ | ⟨e, h⟩
  · rw [e]
    unfold okP at h
    simp only at h
    clear e
    have ways : s < 0 ∨ (0 ≤ s ∧ 6 < s) ∨ (0 ≤ s ∧ s ≤ 6 ∧ o < 0) ∨ (0 ≤ s ∧ s ≤ 6 ∧ 0 ≤ o ∧ 8 < o) ∨ (0 ≤ s ∧ s ≤ 6 ∧ 0 ≤ o ∧ o ≤ 8 ∧ a < -1) ∨ (0 ≤ s ∧ s ≤ 6 ∧ 0 ≤ o ∧ o ≤ 8 ∧ -1 ≤ a ∧ 1 < a) := by omega
    clear h
    rcases ways with h | ⟨h1, h2⟩ | ⟨h1, h2, h3⟩ | ⟨h1, h2, h3, h4⟩ | ⟨h1, h2, h3, h4, h5⟩ | ⟨h1, h2, h3, h4, h5, h6⟩
    all_goals
      go_enter Tryd.func44, Tryd.ntmps44
      go_wp2_with fail
      go_ret
      exact ⟨rfl, w_alloc (w_refl w) _⟩
  · rw [e]
    obtain ⟨⟨h1, h2⟩, ⟨h3, h4⟩, h5, h6⟩ := h
    simp only at h1 h2 h3 h4 h5 h6
    clear e
    go_enter Tryd.func44, Tryd.ntmps44
    go_wp2_with fail
    go_ret
    exact ⟨rfl, w_alloc (w_refl w) _⟩

set_option maxHeartbeats 1000000 in
theorem rnumber_any (p : Pi3) (w : World) : Calls Tryd.prog 40 #[pv p] w fun e w' => e = .returned (.tuple #[.int .i64 (numV p).1, .int .i64 (numV p).2]) ∧ Below w.heap.size w w' := by
  have C := Lib.hid (fun W => rcheck_any p W)
  by_cases h : okP p
  · rw [numV_ok h]
    rw [chkV_ok h] at C
    have hn := Lib.hid (show numI p = 7 * p.2.1 + p.1 from rfl)
    have hh := h
    obtain ⟨s, o, a⟩ := p
    obtain ⟨⟨h1, h2⟩, ⟨h3, h4⟩, h5, h6⟩ := h
    simp only at h1 h2 h3 h4 h5 h6 hn
    rw [hn.out]
    clear hh hn
    have cell := Lib.hid (Cell3.made w (s, o, a) 23)
    go_enter Tryd.func40, Tryd.ntmps40
    go_wp2_with fail
    refine (C.out _).mono ?_
    rintro e w1 ⟨rfl, hb⟩
    have hB := Lib.hid (w_below (w_alloc (w_refl w) _) hb)
    obtain ⟨_, c0, c1, c2, _, _, _⟩ := cell.out.later hb
    simp only at c0 c1 c2
    have x1 : IntKind.i64.wrap (7 * o) = 7 * o := IntWalk.i64_in _ (by omega)
    have x2 : IntKind.i64.wrap (7 * o + s) = 7 * o + s := IntWalk.i64_in _ (by omega)
    clear hb cell C
    go_wp2_with fail
    go_ret2
    exact ⟨rfl, hB.out⟩
  · rw [numV_no h]
    rw [chkV_no h] at C
    clear h
    obtain ⟨s, o, a⟩ := p
    go_enter Tryd.func40, Tryd.ntmps40
    go_wp2_with fail
    refine (C.out _).mono ?_
    rintro e w1 ⟨rfl, hb⟩
    have hB := Lib.hid (w_below (w_alloc (w_refl w) _) hb)
    clear hb C
    go_wp2_with fail
    go_ret2
    exact ⟨rfl, hB.out⟩

end Go.Proofs.YtaldbjhalpgkeaaDoor
