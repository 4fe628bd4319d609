/- The statements' own pitches, made of a number. -/
import Derived.Test.YtpkihehacocbhaaDoorPSpec
namespace Go.Proofs.YtpkihehacocbhaaDoor
open Go.RowKit

set_option maxHeartbeats 400000 in
theorem mod_pos (a m : Int) (w : World) (ha : 0 ≤ a) (ha1 : a ≤ 9223372036854775807) (hm : 1 ≤ m) (hm1 : m ≤ 1099511627776) :
    Calls Tryd.prog 32 #[.int .i64 a, .int .i64 m] w fun e w' => e = .returned (.int .i64 (a % m)) ∧ w = w' := by
  have r0 := Int.emod_nonneg a (show m ≠ 0 by omega)
  have r1 := Int.emod_lt_of_pos a (show 0 < m by omega)
  go_enter Tryd.func32, Tryd.ntmps32
  go_wp2
  go_ret
  exact ⟨rfl, rfl⟩

set_option maxHeartbeats 400000 in
theorem mod_neg (a m : Int) (w : World) (ha : a < 0) (ha1 : -9223372036854775808 ≤ a) (hm : 1 ≤ m) (hm1 : m ≤ 1099511627776) :
    Calls Tryd.prog 32 #[.int .i64 a, .int .i64 m] w fun e w' => e = .returned (.int .i64 (a % m)) ∧ w = w' := by
  have r0 := Int.emod_nonneg a (show m ≠ 0 by omega)
  have r1 := Int.emod_lt_of_pos a (show 0 < m by omega)
  have t0 : a.tmod m ≤ 0 := by
    have := Int.tmod_nonneg (a := -a) m (by omega)
    rw [Int.neg_tmod] at this; omega
  have t1 : -m < a.tmod m := by
    have := Int.tmod_lt_of_pos (-a) (show 0 < m by omega)
    rw [Int.neg_tmod] at this; omega
  by_cases hd : m ∣ a
  · have e := Lib.hid (Int.tmod_eq_emod (a := a) (b := m))
    have e2 := Lib.hid (show a.tmod m = a % m by rw [e.out, if_pos (.inr hd)]; simp)
    have e3 : 0 ≤ a.tmod m := by rw [e2.out]; exact r0
    clear e hd
    go_enter Tryd.func32, Tryd.ntmps32
    go_wp2
    go_ret
    rw [e2.out]; exact ⟨rfl, rfl⟩
  · have e := Lib.hid (Int.tmod_eq_emod (a := a) (b := m))
    have e2 := Lib.hid (show a.tmod m + m = a % m by rw [e.out, if_neg (by omega)]; omega)
    have e3 : a.tmod m < 0 := by have := e2.out; omega
    clear e hd
    go_enter Tryd.func32, Tryd.ntmps32
    go_wp2
    go_ret
    rw [e2.out]; exact ⟨rfl, rfl⟩

theorem mod_any (a m : Int) (w : World) (ha : -9223372036854775808 ≤ a) (ha1 : a ≤ 9223372036854775807) (hm : 1 ≤ m) (hm1 : m ≤ 1099511627776) :
    Calls Tryd.prog 32 #[.int .i64 a, .int .i64 m] w fun e w' => e = .returned (.int .i64 (a % m)) ∧ w = w' := by
  by_cases h : 0 ≤ a
  · exact mod_pos a m w h ha1 hm hm1
  · exact mod_neg a m w (by omega) ha hm hm1

theorem made_ok (z : Int) : okP (z % 189 / 3 % 7, z % 189 / 21, z % 189 % 3 - 1) := by
  unfold okP; simp only; omega
/-- The pitch made of a number. -/
def madeP (z : Int) : Pi3 := (z % 189 / 3 % 7, z % 189 / 21, z % 189 % 3 - 1)

set_option maxHeartbeats 1000000 in
theorem pitch_any (z : Int) (w : World) (h1 : -9223372036854775808 ≤ z) (h2 : z ≤ 9223372036854775807) :
    Calls Tryd.prog 31 #[.int .i64 z] w fun e w' => e = .returned (pv (madeP z)) ∧ Below w.heap.size w w' := by
  have M := Lib.hid (fun W => mod_any z 189 W h1 h2 (by decide) (by decide))
  have hm : madeP z = (z % 189 / 3 % 7, z % 189 / 21, z % 189 % 3 - 1) := rfl
  rw [hm]
  have k0 : 0 ≤ z % 189 := by omega
  have k1 : z % 189 < 189 := by omega
  clear hm
  generalize z % 189 = k at *
  have t1 : k.tdiv 3 = k / 3 := Int.tdiv_eq_ediv_of_nonneg k0
  have t2 : (k / 3).tmod 7 = k / 3 % 7 := Int.tmod_eq_emod_of_nonneg (by omega)
  have t3 : k.tdiv 21 = k / 21 := Int.tdiv_eq_ediv_of_nonneg k0
  have t4 : k.tmod 3 = k % 3 := Int.tmod_eq_emod_of_nonneg k0
  have x1 : IntKind.i64.wrap (k / 3) = k / 3 := IntWalk.i64_in _ (by omega)
  have x2 : IntKind.i64.wrap (k / 21) = k / 21 := IntWalk.i64_in _ (by omega)
  have x3 : IntKind.i64.wrap (k % 3 - 1) = k % 3 - 1 := IntWalk.i64_in _ (by omega)
  have x4 : IntKind.i64.wrap (k / 3 % 7) = k / 3 % 7 := IntWalk.i64_in _ (by omega)
  have x5 : IntKind.i64.wrap (k % 3) = k % 3 := IntWalk.i64_in _ (by omega)
  go_enter Tryd.func31, Tryd.ntmps31
  go_wp2_with fail
  refine (M.out _).mono ?_
  rintro e w1 ⟨rfl, rfl⟩
  go_wp2_with fail
  refine bodyPost_ret (v := pv (k / 3 % 7, k / 21, k % 3 - 1)) (by simp [results, Tryd.results31, go_sem]) rfl ⟨rfl, ?_⟩
  first
    | exact w_set (w_set (w_set (w_alloc (w_refl w) _) (by simp) _) (by simp) _) (by simp) _
    | exact w_alloc (w_refl w) _

end Go.Proofs.YtpkihehacocbhaaDoor
