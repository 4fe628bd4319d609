/- Contracts of the greatest common divisor and of lowest terms, of the program and of the reference: both give the same plain function. -/
import Derived.Test.YtflgmeajkflobaaDoorProg
import Derived.Test.YtflgmeajkflobaaDoorMath
import Derived.WalkKit
import Derived.WalkSpells
import Derived.WalkLawsBesides
import Derived.Lib.Hide
namespace Go.Proofs.YtflgmeajkflobaaDoor
open Go.RowKit

set_option maxHeartbeats 400000 in
theorem common_k (k : Nat) : ∀ (a b : Int) (w : World), b ≤ k → 0 ≤ a → a ≤ 9223372036854775807 → 1 ≤ b → b ≤ 9223372036854775807 →
    Calls Tryd.prog 57 #[.int .i64 a, .int .i64 b] w fun e w' => e = .returned (.tuple #[.int .i64 (a / gcdI a b), .int .i64 (gcdI a b)]) ∧ w = w' := by
  induction k with
  | zero => intro a b w hk _ _ _ _; omega
  | succ k ih =>
    intro a b w hk ha ha1 hb hb1
    have r0 := Int.emod_nonneg a (show b ≠ 0 by omega)
    have r1 := Int.emod_lt_of_pos a (show 0 < b by omega)
    by_cases hz : a % b = 0
    · have hg := Lib.hid (gcdI_of_mod a b ha hb hz)
      have hz1 : (a % b == 0) = true := beq_iff_eq.2 hz
      clear hz
      go_enter Tryd.func57, Tryd.ntmps57
      go_wp2_with fail
      go_ret2
      rw [hg.out]; exact ⟨rfl, rfl⟩
    · have hz1 : (a % b == 0) = false := beq_eq_false_iff_ne.2 hz
      have hg := Lib.hid (gcdI_mod a b ha hb)
      have g1 := gcdI_pos b (a % b) (by omega)
      have g2 := gcdI_le b (a % b) (by omega)
      go_enter Tryd.func57, Tryd.ntmps57
      go_wp2_with fail
      refine (ih b (a % b) _ (by omega) (by omega) (by omega) (by omega) (by omega)).mono ?_
      rintro e w' ⟨rfl, rfl⟩
      go_wp2_with fail
      go_ret2
      rw [hg.out]; exact ⟨rfl, rfl⟩

theorem common_any (a b : Int) (w : World) (ha : 0 ≤ a) (ha1 : a ≤ 9223372036854775807) (hb : 1 ≤ b) (hb1 : b ≤ 9223372036854775807) :
    Calls Tryd.prog 57 #[.int .i64 a, .int .i64 b] w fun e w' => e = .returned (.tuple #[.int .i64 (a / gcdI a b), .int .i64 (gcdI a b)]) ∧ w = w' :=
  common_k b.toNat a b w (by omega) ha ha1 hb hb1

set_option maxHeartbeats 400000 in
theorem gcd_any (a b : Int) (w : World) (ha : 0 ≤ a) (ha1 : a ≤ 9223372036854775807) (hb : 0 ≤ b) (hb1 : b ≤ 9223372036854775807) :
    Calls Tryd.prog 58 #[.int .i64 a, .int .i64 b] w fun e w' => e = .returned (.int .i64 (gcdI a b)) ∧ w = w' := by
  go_enter Tryd.func58, Tryd.ntmps58
  go_wp2
  go_loop [0, 1] (fun x y => ∃ p q : Int, 0 ≤ p ∧ p ≤ 9223372036854775807 ∧ 0 ≤ q ∧ q ≤ 9223372036854775807 ∧ x = .int .i64 p ∧ y = .int .i64 q ∧ Hid (gcdI p q = gcdI a b)) (fun _ y => (intOf y).toNat)
  case atStart => exact ⟨a, b, ha, ha1, hb, hb1, rfl, rfl, Lib.hid rfl⟩
  case round =>
    obtain ⟨p, q, hp, hp1, hq, hq1, rfl, rfl, hg⟩ := hrel
    by_cases h : 0 < q
    · have r0 := Int.emod_nonneg p (show q ≠ 0 by omega)
      have r1 := Int.emod_lt_of_pos p h
      have hm := Lib.hid (gcdI_mod p q hp (by omega))
      go_wp2
      go_round
      case rel => exact ⟨q, p % q, by omega, by omega, by omega, by omega, rfl, rfl, Lib.hid (hm.out.trans hg.out)⟩
      case measure => simp [intOf]; omega
    · go_wp2
      go_ret
      have hq0 : q = 0 := by omega
      subst hq0
      have := hg.out
      rw [gcdI_zero_right p hp] at this
      rw [this]; exact ⟨rfl, rfl⟩

end Go.Proofs.YtflgmeajkflobaaDoor
