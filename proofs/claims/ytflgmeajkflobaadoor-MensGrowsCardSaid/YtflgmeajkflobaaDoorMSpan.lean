/- Contracts of the checks of times, of making a time, and of the kit's T. -/
import Derived.Test.YtflgmeajkflobaaDoorMLow
import Derived.WalkSmall
namespace Go.Proofs.YtflgmeajkflobaaDoor
open Go.RowKit

theorem chk_n0 {n d : Int} (h : n < 0) : chk n d = 2 := by unfold chk; rw [if_pos (by omega)]
theorem chk_n1 {n d : Int} (h : 1099511627776 < n) : chk n d = 2 := by unfold chk; rw [if_pos (by omega)]
theorem chk_d0 {n d : Int} (h : d < 1) : chk n d = 2 := by unfold chk; rw [if_pos (by omega)]
theorem chk_d1 {n d : Int} (h : 1048576 < d) : chk n d = 2 := by unfold chk; rw [if_pos (by omega)]
theorem chk_co {n d : Int} (h0 : 0 ≤ n) (h1 : n ≤ 1099511627776) (h2 : 1 ≤ d) (h3 : d ≤ 1048576) (h : gcdI n d ≤ 1) : chk n d = 0 := by
  unfold chk; rw [if_neg (by omega), if_pos]; have := gcdI_pos n d h2; omega
theorem chk_nc {n d : Int} (h0 : 0 ≤ n) (h1 : n ≤ 1099511627776) (h2 : 1 ≤ d) (h3 : d ≤ 1048576) (h : 1 < gcdI n d) : chk n d = 3 := by
  unfold chk; rw [if_neg (by omega), if_neg]; omega

set_option maxHeartbeats 1000000 in
theorem check_any (n d : Int) (w : World) :
    Calls Tryd.prog 51 #[tv n d] w fun e w' => e = .returned (.int .i64 (chk n d)) ∧ Below w.heap.size w w' := by
  by_cases h0 : n < 0
  · have hc := Lib.hid (chk_n0 (d := d) h0)
    go_enter Tryd.func51, Tryd.ntmps51
    go_wp2_with fail
    go_ret
    rw [hc.out]; exact ⟨rfl, (Below.refl _ _).alloc (Nat.le_refl _) _⟩
  by_cases h1 : 1099511627776 < n
  · have hc := Lib.hid (chk_n1 (d := d) h1)
    go_enter Tryd.func51, Tryd.ntmps51
    go_wp2_with fail
    go_ret
    rw [hc.out]; exact ⟨rfl, (Below.refl _ _).alloc (Nat.le_refl _) _⟩
  by_cases h2 : d < 1
  · have hc := Lib.hid (chk_d0 (n := n) h2)
    go_enter Tryd.func51, Tryd.ntmps51
    go_wp2_with fail
    go_ret
    rw [hc.out]; exact ⟨rfl, (Below.refl _ _).alloc (Nat.le_refl _) _⟩
  by_cases h3 : 1048576 < d
  · have hc := Lib.hid (chk_d1 (n := n) h3)
    go_enter Tryd.func51, Tryd.ntmps51
    go_wp2_with fail
    go_ret
    rw [hc.out]; exact ⟨rfl, (Below.refl _ _).alloc (Nat.le_refl _) _⟩
  by_cases h4 : 1 < gcdI n d
  · have hc := Lib.hid (chk_nc (by omega) (by omega) (by omega) (by omega) h4)
    go_enter Tryd.func51, Tryd.ntmps51
    go_wp2_with fail
    refine (common_any n d _ (by omega) (by omega) (by omega) (by omega)).mono ?_
    rintro e w' ⟨rfl, rfl⟩
    go_wp2_with fail
    go_ret
    rw [hc.out]; exact ⟨rfl, (Below.refl _ _).alloc (Nat.le_refl _) _⟩
  · have hc := Lib.hid (chk_co (n := n) (d := d) (by omega) (by omega) (by omega) (by omega) (by omega))
    go_enter Tryd.func51, Tryd.ntmps51
    go_wp2_with fail
    refine (common_any n d _ (by omega) (by omega) (by omega) (by omega)).mono ?_
    rintro e w' ⟨rfl, rfl⟩
    go_wp2_with fail
    go_ret
    rw [hc.out]; exact ⟨rfl, (Below.refl _ _).alloc (Nat.le_refl _) _⟩

set_option maxHeartbeats 1000000 in
theorem rcheck_any (n d : Int) (w : World) :
    Calls Tryd.prog 52 #[tv n d] w fun e w' => e = .returned (.int .i64 (chk n d)) ∧ Below w.heap.size w w' := by
  by_cases h0 : n < 0
  · have hc := Lib.hid (chk_n0 (d := d) h0)
    go_enter Tryd.func52, Tryd.ntmps52
    go_wp2_with fail
    go_ret
    rw [hc.out]; exact ⟨rfl, (Below.refl _ _).alloc (Nat.le_refl _) _⟩
  by_cases h1 : 1099511627776 < n
  · have hc := Lib.hid (chk_n1 (d := d) h1)
    go_enter Tryd.func52, Tryd.ntmps52
    go_wp2_with fail
    go_ret
    rw [hc.out]; exact ⟨rfl, (Below.refl _ _).alloc (Nat.le_refl _) _⟩
  by_cases h2 : d < 1
  · have hc := Lib.hid (chk_d0 (n := n) h2)
    go_enter Tryd.func52, Tryd.ntmps52
    go_wp2_with fail
    go_ret
    rw [hc.out]; exact ⟨rfl, (Below.refl _ _).alloc (Nat.le_refl _) _⟩
  by_cases h3 : 1048576 < d
  · have hc := Lib.hid (chk_d1 (n := n) h3)
    go_enter Tryd.func52, Tryd.ntmps52
    go_wp2_with fail
    go_ret
    rw [hc.out]; exact ⟨rfl, (Below.refl _ _).alloc (Nat.le_refl _) _⟩
  by_cases h4 : 1 < gcdI n d
  · have hc := Lib.hid (chk_nc (by omega) (by omega) (by omega) (by omega) h4)
    have hne : (gcdI n d != 1) = true := by rw [bne_iff_ne]; omega
    go_enter Tryd.func52, Tryd.ntmps52
    go_wp2_with fail
    refine (gcd_any n d _ (by omega) (by omega) (by omega) (by omega)).mono ?_
    rintro e w' ⟨rfl, rfl⟩
    go_wp2_with fail
    go_ret
    rw [hc.out]; exact ⟨rfl, (Below.refl _ _).alloc (Nat.le_refl _) _⟩
  · have hc := Lib.hid (chk_co (n := n) (d := d) (by omega) (by omega) (by omega) (by omega) (by omega))
    have hp := gcdI_pos n d (by omega)
    have hne : (gcdI n d != 1) = false := by simp; omega
    go_enter Tryd.func52, Tryd.ntmps52
    go_wp2_with fail
    refine (gcd_any n d _ (by omega) (by omega) (by omega) (by omega)).mono ?_
    rintro e w' ⟨rfl, rfl⟩
    go_wp2_with fail
    go_ret
    rw [hc.out]; exact ⟨rfl, (Below.refl _ _).alloc (Nat.le_refl _) _⟩

/-- Making a time. -/
def makeV (n d : Int) : Int × Int × Int := if n < 0 ∨ d < 0 then (0, 0, 2) else if d = 0 then (0, 0, 5) else low n d
theorem makeV_neg {n d : Int} (h : n < 0 ∨ d < 0) : makeV n d = (0, 0, 2) := by unfold makeV; rw [if_pos h]
theorem makeV_zero {n d : Int} (h : 0 ≤ n) (k : d = 0) : makeV n d = (0, 0, 5) := by unfold makeV; rw [if_neg (by omega), if_pos k]
theorem makeV_ok {n d : Int} (h : 0 ≤ n) (k : 1 ≤ d) : makeV n d = low n d := by unfold makeV; rw [if_neg (by omega), if_neg (by omega)]

set_option maxHeartbeats 1000000 in
theorem make_any (n d : Int) (w : World) (hn1 : n ≤ 9223372036854775807) (hd1 : d ≤ 9223372036854775807) :
    Calls Tryd.prog 53 #[.int .i64 n, .int .i64 d] w fun e w' => e = .returned (tev (makeV n d)) ∧ Below w.heap.size w w' := by
  by_cases h0 : n < 0
  · have hs := Lib.hid (makeV_neg (n := n) (d := d) (.inl h0))
    go_enter Tryd.func53, Tryd.ntmps53
    go_wp2_with fail
    refine bodyPost_ret (v := .tuple #[.agg #[.int .i64 0, .int .i64 0], .int .i64 2]) (by simp [results, Tryd.results53, go_sem]) rfl ⟨by rw [hs.out], ?_⟩
    exact ba (br _) _
  by_cases h1 : d < 0
  · have hs := Lib.hid (makeV_neg (n := n) (d := d) (.inr h1))
    go_enter Tryd.func53, Tryd.ntmps53
    go_wp2_with fail
    refine bodyPost_ret (v := .tuple #[.agg #[.int .i64 0, .int .i64 0], .int .i64 2]) (by simp [results, Tryd.results53, go_sem]) rfl ⟨by rw [hs.out], ?_⟩
    exact ba (br _) _
  by_cases h2 : d = 0
  · have hs := Lib.hid (makeV_zero (n := n) (d := d) (by omega) h2)
    have hz : (d == 0) = true := by simp [h2]
    clear h2
    go_enter Tryd.func53, Tryd.ntmps53
    go_wp2_with fail
    refine bodyPost_ret (v := .tuple #[.agg #[.int .i64 0, .int .i64 0], .int .i64 5]) (by simp [results, Tryd.results53, go_sem]) rfl ⟨by rw [hs.out], ?_⟩
    exact ba (br _) _
  · have hs := Lib.hid (makeV_ok (n := n) (d := d) (by omega) (by omega))
    have hz : (d == 0) = false := by simp [h2]
    go_enter Tryd.func53, Tryd.ntmps53
    go_wp2_with fail
    refine (lowest_any n d _ (by omega) (by omega) (by omega) (by omega)).mono ?_
    rintro e w1 ⟨rfl, hb1⟩
    obtain ⟨hc1, hf1⟩ := bcell hb1
    go_wp2_with fail
    refine bodyPost_ret (v := tev (low n d)) (by simp [results, Tryd.results53, go_sem, hc1]) rfl ⟨by rw [hs.out], ?_⟩
    exact bs (bs (bl (ba (br _) _) hb1) (by simp) _) (by simp) _

set_option maxHeartbeats 1000000 in
theorem t_any (n d : Int) (w : World) (hn : 0 ≤ n) (hn1 : n ≤ 1099511627776) (hd : 1 ≤ d) (hd1 : d ≤ 1099511627776) :
    Calls Tryd.prog 34 #[.int .i64 n, .int .i64 d] w fun e w' => e = .returned (tv (n / gcdI n d) (d / gcdI n d)) ∧ Below w.heap.size w w' := by
  have g1 := gcdI_pos n d hd
  have g2 := gcdI_le n d hd
  go_enter Tryd.func34, Tryd.ntmps34
  go_wp2
  go_loop [5, 6] (fun x y => ∃ p q : Int, 0 ≤ p ∧ p ≤ 1099511627776 ∧ 0 ≤ q ∧ q ≤ 1099511627776 ∧ x = .int .i64 p ∧ y = .int .i64 q ∧ Hid (gcdI p q = gcdI n d)) (fun _ y => (intOf y).toNat)
  case atStart => exact ⟨n, d, by omega, by omega, by omega, by omega, rfl, rfl, Lib.hid rfl⟩
  case round =>
    obtain ⟨p, q, hp, hp1, hq, hq1, rfl, rfl, hg⟩ := hrel
    by_cases h : 0 < q
    · have r0 := Int.emod_nonneg p (show q ≠ 0 by omega)
      have r1 := Int.emod_lt_of_pos p h
      have hm := Lib.hid (gcdI_mod p q hp (by omega))
      go_wp2
      go_round
      case rel => exact ⟨q, p % q, by omega, by omega, by omega, by omega, rfl, rfl, Lib.hid (hm.out.trans hg.out)⟩
      case measure => simp [intOf]; omega
    · have hq0 : q = 0 := by omega
      subst hq0
      have e := hg.out
      rw [gcdI_zero_right p hp] at e
      subst e
      clear hg
      go_wp2
      go_region
      go_wp2
      exact bodyPost_ret (v := tv (n / gcdI n d) (d / gcdI n d)) (by simp [results, Tryd.results34, go_sem]) rfl ⟨rfl, (ba (br _) _).drew⟩

end Go.Proofs.YtflgmeajkflobaaDoor
