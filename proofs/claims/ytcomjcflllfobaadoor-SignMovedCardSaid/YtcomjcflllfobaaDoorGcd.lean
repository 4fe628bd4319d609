/- Contracts of the greatest common divisor and of lowest terms, of the program and of the reference: both give the same plain function. -/
import Derived.Test.YtcomjcflllfobaaDoorProg
import Derived.Test.YtcomjcflllfobaaDoorMath
import Derived.WalkKit
import Derived.WalkSpells
import Derived.WalkLawsBesides
import Derived.Lib.Hide
namespace Go.Proofs.YtcomjcflllfobaaDoor
open Go.RowKit

set_option maxHeartbeats 400000 in
theorem common_k (k : Nat) : ∀ (a b : Int) (w : World), b ≤ k → 0 ≤ a → a ≤ 9223372036854775807 → 1 ≤ b → b ≤ 9223372036854775807 →
    Calls Tryd.prog 87 #[.int .i64 a, .int .i64 b] w fun e w' => e = .returned (.tuple #[.int .i64 (a / gcdI a b), .int .i64 (gcdI a b)]) ∧ w = w' := by
  induction k with
  | zero => intro a b w hk _ _ _ _; omega
  | succ k ih =>
    intro a b w hk ha ha1 hb hb1
    have r0 := Int.emod_nonneg a (show b ≠ 0 by omega)
    have r1 := Int.emod_lt_of_pos a (show 0 < b by omega)
    by_cases hz : a % b = 0
    · have hg := Lib.hid (gcdI_of_mod a b ha hb hz)
      have hz1 : (a % b == 0) = true := beq_iff_eq.2 hz
      clear hz
      go_enter Tryd.func87, Tryd.ntmps87
      go_wp2_with fail
      go_ret2
      rw [hg.out]; exact ⟨rfl, rfl⟩
    · have hz1 : (a % b == 0) = false := beq_eq_false_iff_ne.2 hz
      have hg := Lib.hid (gcdI_mod a b ha hb)
      have g1 := gcdI_pos b (a % b) (by omega)
      have g2 := gcdI_le b (a % b) (by omega)
      go_enter Tryd.func87, Tryd.ntmps87
      go_wp2_with fail
      refine (ih b (a % b) _ (by omega) (by omega) (by omega) (by omega) (by omega)).mono ?_
      rintro e w' ⟨rfl, rfl⟩
      go_wp2_with fail
      go_ret2
      rw [hg.out]; exact ⟨rfl, rfl⟩

theorem common_any (a b : Int) (w : World) (ha : 0 ≤ a) (ha1 : a ≤ 9223372036854775807) (hb : 1 ≤ b) (hb1 : b ≤ 9223372036854775807) :
    Calls Tryd.prog 87 #[.int .i64 a, .int .i64 b] w fun e w' => e = .returned (.tuple #[.int .i64 (a / gcdI a b), .int .i64 (gcdI a b)]) ∧ w = w' :=
  common_k b.toNat a b w (by omega) ha ha1 hb hb1

end Go.Proofs.YtcomjcflllfobaaDoor
