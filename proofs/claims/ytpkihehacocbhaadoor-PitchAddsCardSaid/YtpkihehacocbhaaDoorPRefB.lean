/- The reference's functions on pitches, for all arguments: heights, moves, mirrors, intervals. -/
import Derived.Test.YtpkihehacocbhaaDoorPRef
import Derived.BigRegion
namespace Go.Proofs.YtpkihehacocbhaaDoor
open Go.RowKit

set_option maxHeartbeats 2000000 in
theorem rheight_any (p : Pi3) (w : World) : Calls Tryd.prog 21 #[pv p] w fun e w' => e = .returned (.tuple #[.int .i64 (heiV p).1, .int .i64 (heiV p).2]) ∧ Below w.heap.size w w' := by
  have C := Lib.hid (fun W => rcheck_any p W)
  by_cases h : okP p
  · rw [heiV_ok h]
    rw [chkV_ok h] at C
    obtain ⟨s, o, a⟩ := p
    obtain ⟨⟨h1, h2⟩, ⟨h3, h4⟩, h5, h6⟩ := h
    simp only at h1 h2 h3 h4 h5 h6
    have hs : s = 0 ∨ s = 1 ∨ s = 2 ∨ s = 3 ∨ s = 4 ∨ s = 5 ∨ s = 6 := by omega
    have x1 : IntKind.i64.wrap (12 * o) = 12 * o := IntWalk.i64_in _ (by omega)
    have x2 : ∀ k : Int, 0 ≤ k → k ≤ 11 → IntKind.i64.wrap (12 * o + k) = 12 * o + k := fun k _ _ => IntWalk.i64_in _ (by omega)
    have x3 : ∀ k : Int, 0 ≤ k → k ≤ 11 → IntKind.i64.wrap (12 * o + k + a) = 12 * o + k + a := fun k _ _ => IntWalk.i64_in _ (by omega)
    have X2 := Lib.hid x2
    have X3 := Lib.hid x3
    have y0 : IntKind.i64.wrap (12 * o + a) = 12 * o + a := IntWalk.i64_in _ (by omega)
    clear x2 x3 h1 h2
    rcases hs with rfl | rfl | rfl | rfl | rfl | rfl | rfl
    · have x2 := X2.out 0 (by decide) (by decide)
      have x3 := X3.out 0 (by decide) (by decide)
      show Calls _ _ _ _ fun e w' => e = .returned (.tuple #[.int .i64 (12 * o + 0 + a), .int .i64 0]) ∧ _
      have cell := Lib.hid (Cell3.made w (0, o, a) 23)
      go_enter Tryd.func21, Tryd.ntmps21
      go_wp2_with fail
      refine (C.out _).mono ?_
      rintro e w1 ⟨rfl, hb⟩
      have hB := Lib.hid (w_below (w_alloc (w_refl w) _) hb)
      obtain ⟨hin, c0, c1, c2, _, _, _⟩ := cell.out.later hb
      simp only at c0 c1 c2
      clear hb cell C
      go_wp2_with fail
      go_region
      all_goals
        go_wp2_with fail
        go_ret2
        exact ⟨by simp, w_alloc hB.out.drew _⟩
    · have x2 := X2.out 2 (by decide) (by decide)
      have x3 := X3.out 2 (by decide) (by decide)
      show Calls _ _ _ _ fun e w' => e = .returned (.tuple #[.int .i64 (12 * o + 2 + a), .int .i64 0]) ∧ _
      have cell := Lib.hid (Cell3.made w (1, o, a) 23)
      go_enter Tryd.func21, Tryd.ntmps21
      go_wp2_with fail
      refine (C.out _).mono ?_
      rintro e w1 ⟨rfl, hb⟩
      have hB := Lib.hid (w_below (w_alloc (w_refl w) _) hb)
      obtain ⟨hin, c0, c1, c2, _, _, _⟩ := cell.out.later hb
      simp only at c0 c1 c2
      clear hb cell C
      go_wp2_with fail
      go_region
      all_goals
        go_wp2_with fail
        go_ret2
        exact ⟨by simp, w_alloc hB.out.drew _⟩
    · have x2 := X2.out 4 (by decide) (by decide)
      have x3 := X3.out 4 (by decide) (by decide)
      show Calls _ _ _ _ fun e w' => e = .returned (.tuple #[.int .i64 (12 * o + 4 + a), .int .i64 0]) ∧ _
      have cell := Lib.hid (Cell3.made w (2, o, a) 23)
      go_enter Tryd.func21, Tryd.ntmps21
      go_wp2_with fail
      refine (C.out _).mono ?_
      rintro e w1 ⟨rfl, hb⟩
      have hB := Lib.hid (w_below (w_alloc (w_refl w) _) hb)
      obtain ⟨hin, c0, c1, c2, _, _, _⟩ := cell.out.later hb
      simp only at c0 c1 c2
      clear hb cell C
      go_wp2_with fail
      go_region
      all_goals
        go_wp2_with fail
        go_ret2
        exact ⟨by simp, w_alloc hB.out.drew _⟩
    · have x2 := X2.out 5 (by decide) (by decide)
      have x3 := X3.out 5 (by decide) (by decide)
      show Calls _ _ _ _ fun e w' => e = .returned (.tuple #[.int .i64 (12 * o + 5 + a), .int .i64 0]) ∧ _
      have cell := Lib.hid (Cell3.made w (3, o, a) 23)
      go_enter Tryd.func21, Tryd.ntmps21
      go_wp2_with fail
      refine (C.out _).mono ?_
      rintro e w1 ⟨rfl, hb⟩
      have hB := Lib.hid (w_below (w_alloc (w_refl w) _) hb)
      obtain ⟨hin, c0, c1, c2, _, _, _⟩ := cell.out.later hb
      simp only at c0 c1 c2
      clear hb cell C
      go_wp2_with fail
      go_region
      all_goals
        go_wp2_with fail
        go_ret2
        exact ⟨by simp, w_alloc hB.out.drew _⟩
    · have x2 := X2.out 7 (by decide) (by decide)
      have x3 := X3.out 7 (by decide) (by decide)
      show Calls _ _ _ _ fun e w' => e = .returned (.tuple #[.int .i64 (12 * o + 7 + a), .int .i64 0]) ∧ _
      have cell := Lib.hid (Cell3.made w (4, o, a) 23)
      go_enter Tryd.func21, Tryd.ntmps21
      go_wp2_with fail
      refine (C.out _).mono ?_
      rintro e w1 ⟨rfl, hb⟩
      have hB := Lib.hid (w_below (w_alloc (w_refl w) _) hb)
      obtain ⟨hin, c0, c1, c2, _, _, _⟩ := cell.out.later hb
      simp only at c0 c1 c2
      clear hb cell C
      go_wp2_with fail
      go_region
      all_goals
        go_wp2_with fail
        go_ret2
        exact ⟨by simp, w_alloc hB.out.drew _⟩
    · have x2 := X2.out 9 (by decide) (by decide)
      have x3 := X3.out 9 (by decide) (by decide)
      show Calls _ _ _ _ fun e w' => e = .returned (.tuple #[.int .i64 (12 * o + 9 + a), .int .i64 0]) ∧ _
      have cell := Lib.hid (Cell3.made w (5, o, a) 23)
      go_enter Tryd.func21, Tryd.ntmps21
      go_wp2_with fail
      refine (C.out _).mono ?_
      rintro e w1 ⟨rfl, hb⟩
      have hB := Lib.hid (w_below (w_alloc (w_refl w) _) hb)
      obtain ⟨hin, c0, c1, c2, _, _, _⟩ := cell.out.later hb
      simp only at c0 c1 c2
      clear hb cell C
      go_wp2_with fail
      go_region
      all_goals
        go_wp2_with fail
        go_ret2
        exact ⟨by simp, w_alloc hB.out.drew _⟩
    · have x2 := X2.out 11 (by decide) (by decide)
      have x3 := X3.out 11 (by decide) (by decide)
      show Calls _ _ _ _ fun e w' => e = .returned (.tuple #[.int .i64 (12 * o + 11 + a), .int .i64 0]) ∧ _
      have cell := Lib.hid (Cell3.made w (6, o, a) 23)
      go_enter Tryd.func21, Tryd.ntmps21
      go_wp2_with fail
      refine (C.out _).mono ?_
      rintro e w1 ⟨rfl, hb⟩
      have hB := Lib.hid (w_below (w_alloc (w_refl w) _) hb)
      obtain ⟨hin, c0, c1, c2, _, _, _⟩ := cell.out.later hb
      simp only at c0 c1 c2
      clear hb cell C
      go_wp2_with fail
      go_region
      all_goals
        go_wp2_with fail
        go_ret2
        exact ⟨by simp, w_alloc hB.out.drew _⟩
  · rw [heiV_no h]
    rw [chkV_no h] at C
    clear h
    obtain ⟨s, o, a⟩ := p
    go_enter Tryd.func21, Tryd.ntmps21
    go_wp2_with fail
    refine (C.out _).mono ?_
    rintro e w1 ⟨rfl, hb⟩
    have hB := Lib.hid (w_below (w_alloc (w_refl w) _) hb)
    clear hb C
    go_wp2_with fail
    go_ret2
    exact ⟨rfl, hB.out⟩

end Go.Proofs.YtpkihehacocbhaaDoor
