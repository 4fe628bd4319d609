/- The kit's Mod. -/
import Derived.Test.YtaldbjhalpgkeaaDoorPSpec
namespace Go.Proofs.YtaldbjhalpgkeaaDoor
open Go.RowKit

set_option maxHeartbeats 400000 in
theorem mod_pos (a m : Int) (w : World) (ha : 0 ≤ a) (ha1 : a ≤ 9223372036854775807) (hm : 1 ≤ m) (hm1 : m ≤ 1099511627776) :
    Calls Tryd.prog 34 #[.int .i64 a, .int .i64 m] w fun e w' => e = .returned (.int .i64 (a % m)) ∧ w = w' := by
  have r0 := Int.emod_nonneg a (show m ≠ 0 by omega)
  have r1 := Int.emod_lt_of_pos a (show 0 < m by omega)
  go_enter Tryd.func34, Tryd.ntmps34
  go_wp2
  go_ret
  exact ⟨rfl, rfl⟩

set_option maxHeartbeats 400000 in
theorem mod_neg (a m : Int) (w : World) (ha : a < 0) (ha1 : -9223372036854775808 ≤ a) (hm : 1 ≤ m) (hm1 : m ≤ 1099511627776) :
    Calls Tryd.prog 34 #[.int .i64 a, .int .i64 m] w fun e w' => e = .returned (.int .i64 (a % m)) ∧ w = w' := by
  have r0 := Int.emod_nonneg a (show m ≠ 0 by omega)
  have r1 := Int.emod_lt_of_pos a (show 0 < m by omega)
  have t0 : a.tmod m ≤ 0 := by
    have := Int.tmod_nonneg (a := -a) m (by omega)
    rw [Int.neg_tmod] at this; omega
  have t1 : -m < a.tmod m := by
    have := Int.tmod_lt_of_pos (-a) (show 0 < m by omega)
    rw [Int.neg_tmod] at this; omega
  by_cases hd : m ∣ a
  · have e := Lib.hid (Int.tmod_eq_emod (a := a) (b := m))
    have e2 := Lib.hid (show a.tmod m = a % m by rw [e.out, if_pos (.inr hd)]; simp)
    have e3 : 0 ≤ a.tmod m := by rw [e2.out]; exact r0
    clear e hd
    go_enter Tryd.func34, Tryd.ntmps34
    go_wp2
    go_ret
    rw [e2.out]; exact ⟨rfl, rfl⟩
  · have e := Lib.hid (Int.tmod_eq_emod (a := a) (b := m))
    have e2 := Lib.hid (show a.tmod m + m = a % m by rw [e.out, if_neg (by omega)]; omega)
    have e3 : a.tmod m < 0 := by have := e2.out; omega
    clear e hd
    go_enter Tryd.func34, Tryd.ntmps34
    go_wp2
    go_ret
    rw [e2.out]; exact ⟨rfl, rfl⟩

theorem mod_any (a m : Int) (w : World) (ha : -9223372036854775808 ≤ a) (ha1 : a ≤ 9223372036854775807) (hm : 1 ≤ m) (hm1 : m ≤ 1099511627776) :
    Calls Tryd.prog 34 #[.int .i64 a, .int .i64 m] w fun e w' => e = .returned (.int .i64 (a % m)) ∧ w = w' := by
  by_cases h : 0 ≤ a
  · exact mod_pos a m w h ha1 hm hm1
  · exact mod_neg a m w (by omega) ha hm hm1

end Go.Proofs.YtaldbjhalpgkeaaDoor
