/- The program's and the reference's classes of kinds, and ranges of fields. -/
import Derived.Test.YtcomjcflllfobaaDoorSProgA
namespace Go.Proofs.YtcomjcflllfobaaDoor
open Go.RowKit
attribute [local go_sem] sgA_g0 sgA_g1 sgA_g2 sgA_g3 sgA_g4 sgA_g5 sgA_g6 sgA_g7 sgA_g8 sgA_g9 sgA_g10 sgA_g11 sgA_g12 sgA_g13 sgA_g14 sgA_g15 sgA_g16
theorem kinds_of {k : Int} (h : kOk k) : k = 1 ∨ k = 2 ∨ k = 3 ∨ k = 4 ∨ k = 5 ∨ k = 6 ∨ k = 7 ∨ k = 8 ∨ k = 9 ∨ k = 10 ∨ k = 11 ∨ k = 12 := by
  obtain ⟨h1, h2⟩ := h
  omega
theorem no_kind {k : Int} (h : ¬ kOk k) : ∀ m : Int, 1 ≤ m → m ≤ 12 → (k == m) = false := fun m h1 h2 => by
  have : k ≠ m := fun e => h ⟨by omega, by omega⟩
  simp [this]

set_option maxHeartbeats 2000000 in
theorem pcls_any (k : Int) (w : World) : Calls Tryd.prog 10 #[.int .i64 k] w fun e w' => e = .returned (.tuple #[.int .i64 (clsV k).1, .int .i64 (clsV k).2]) ∧ w = w' := by
  by_cases h : kOk k
  · rcases kinds_of h with rfl | rfl | rfl | rfl | rfl | rfl | rfl | rfl | rfl | rfl | rfl | rfl
    all_goals
      unfold clsV
      go_enter Tryd.func10, Tryd.ntmps10
      go_wp2_with fail
      go_ret2
      exact ⟨rfl, rfl⟩
  · rw [kcls_no h]
    have N := no_kind h
    have n1 := N 1 (by decide) (by decide)
    have n2 := N 2 (by decide) (by decide)
    have n3 := N 3 (by decide) (by decide)
    have n4 := N 4 (by decide) (by decide)
    have n5 := N 5 (by decide) (by decide)
    have n6 := N 6 (by decide) (by decide)
    have n7 := N 7 (by decide) (by decide)
    have n8 := N 8 (by decide) (by decide)
    have n9 := N 9 (by decide) (by decide)
    have n10 := N 10 (by decide) (by decide)
    have n11 := N 11 (by decide) (by decide)
    have n12 := N 12 (by decide) (by decide)
    clear N h
    go_enter Tryd.func10, Tryd.ntmps10
    go_wp2_with fail
    go_ret2
    exact ⟨rfl, rfl⟩

set_option maxHeartbeats 2000000 in
theorem rcls_any (k : Int) (w : World) : Calls Tryd.prog 11 #[.int .i64 k] w fun e w' => e = .returned (.tuple #[.int .i64 (clsV k).1, .int .i64 (clsV k).2]) ∧ w = w' := by
  by_cases h : kOk k
  · rcases kinds_of h with rfl | rfl | rfl | rfl | rfl | rfl | rfl | rfl | rfl | rfl | rfl | rfl
    all_goals
      unfold clsV
      go_enter Tryd.func11, Tryd.ntmps11
      go_wp2_with fail
      go_ret2
      exact ⟨rfl, rfl⟩
  · rw [kcls_no h]
    have N := no_kind h
    have n1 := N 1 (by decide) (by decide)
    have n2 := N 2 (by decide) (by decide)
    have n3 := N 3 (by decide) (by decide)
    have n4 := N 4 (by decide) (by decide)
    have n5 := N 5 (by decide) (by decide)
    have n6 := N 6 (by decide) (by decide)
    have n7 := N 7 (by decide) (by decide)
    have n8 := N 8 (by decide) (by decide)
    have n9 := N 9 (by decide) (by decide)
    have n10 := N 10 (by decide) (by decide)
    have n11 := N 11 (by decide) (by decide)
    have n12 := N 12 (by decide) (by decide)
    clear N h
    go_enter Tryd.func11, Tryd.ntmps11
    go_wp2_with fail
    go_ret2
    exact ⟨rfl, rfl⟩

end Go.Proofs.YtcomjcflllfobaaDoor
