/- Contracts of the checks of times, of the program and of the reference: both give the plain function chk. And the order of two valid times. -/
import Derived.Test.YtjgkliiofechfaaDoorLow
namespace Go.Proofs.YtjgkliiofechfaaDoor
open Go.RowKit

theorem chk_n0 {n d : Int} (h : n < 0) : chk n d = 2 := by unfold chk; rw [if_pos (by omega)]
theorem chk_n1 {n d : Int} (h : 1099511627776 < n) : chk n d = 2 := by unfold chk; rw [if_pos (by omega)]
theorem chk_d0 {n d : Int} (h : d < 1) : chk n d = 2 := by unfold chk; rw [if_pos (by omega)]
theorem chk_d1 {n d : Int} (h : 1048576 < d) : chk n d = 2 := by unfold chk; rw [if_pos (by omega)]
theorem chk_co {n d : Int} (h0 : 0 ≤ n) (h1 : n ≤ 1099511627776) (h2 : 1 ≤ d) (h3 : d ≤ 1048576) (h : gcdI n d ≤ 1) : chk n d = 0 := by
  unfold chk; rw [if_neg (by omega), if_pos]; have := gcdI_pos n d h2; omega
theorem chk_nc {n d : Int} (h0 : 0 ≤ n) (h1 : n ≤ 1099511627776) (h2 : 1 ≤ d) (h3 : d ≤ 1048576) (h : 1 < gcdI n d) : chk n d = 3 := by
  unfold chk; rw [if_neg (by omega), if_neg]; omega

set_option maxHeartbeats 1000000 in
theorem check_any (n d : Int) (w : World) :
    Calls Tryd.prog 15 #[tv n d] w fun e w' => e = .returned (.int .i64 (chk n d)) ∧ Below w.heap.size w w' := by
  by_cases h0 : n < 0
  · have hc := Lib.hid (chk_n0 (d := d) h0)
    go_enter Tryd.func15, Tryd.ntmps15
    go_wp2_with fail
    go_ret
    rw [hc.out]; exact ⟨rfl, (Below.refl _ _).alloc (Nat.le_refl _) _⟩
  by_cases h1 : 1099511627776 < n
  · have hc := Lib.hid (chk_n1 (d := d) h1)
    go_enter Tryd.func15, Tryd.ntmps15
    go_wp2_with fail
    go_ret
    rw [hc.out]; exact ⟨rfl, (Below.refl _ _).alloc (Nat.le_refl _) _⟩
  by_cases h2 : d < 1
  · have hc := Lib.hid (chk_d0 (n := n) h2)
    go_enter Tryd.func15, Tryd.ntmps15
    go_wp2_with fail
    go_ret
    rw [hc.out]; exact ⟨rfl, (Below.refl _ _).alloc (Nat.le_refl _) _⟩
  by_cases h3 : 1048576 < d
  · have hc := Lib.hid (chk_d1 (n := n) h3)
    go_enter Tryd.func15, Tryd.ntmps15
    go_wp2_with fail
    go_ret
    rw [hc.out]; exact ⟨rfl, (Below.refl _ _).alloc (Nat.le_refl _) _⟩
  by_cases h4 : 1 < gcdI n d
  · have hc := Lib.hid (chk_nc (by omega) (by omega) (by omega) (by omega) h4)
    go_enter Tryd.func15, Tryd.ntmps15
    go_wp2_with fail
    refine (common_any n d _ (by omega) (by omega) (by omega) (by omega)).mono ?_
    rintro e w' ⟨rfl, rfl⟩
    go_wp2_with fail
    go_ret
    rw [hc.out]; exact ⟨rfl, (Below.refl _ _).alloc (Nat.le_refl _) _⟩
  · have hc := Lib.hid (chk_co (n := n) (d := d) (by omega) (by omega) (by omega) (by omega) (by omega))
    go_enter Tryd.func15, Tryd.ntmps15
    go_wp2_with fail
    refine (common_any n d _ (by omega) (by omega) (by omega) (by omega)).mono ?_
    rintro e w' ⟨rfl, rfl⟩
    go_wp2_with fail
    go_ret
    rw [hc.out]; exact ⟨rfl, (Below.refl _ _).alloc (Nat.le_refl _) _⟩

set_option maxHeartbeats 1000000 in
theorem rcheck_any (n d : Int) (w : World) :
    Calls Tryd.prog 16 #[tv n d] w fun e w' => e = .returned (.int .i64 (chk n d)) ∧ Below w.heap.size w w' := by
  by_cases h0 : n < 0
  · have hc := Lib.hid (chk_n0 (d := d) h0)
    go_enter Tryd.func16, Tryd.ntmps16
    go_wp2_with fail
    go_ret
    rw [hc.out]; exact ⟨rfl, (Below.refl _ _).alloc (Nat.le_refl _) _⟩
  by_cases h1 : 1099511627776 < n
  · have hc := Lib.hid (chk_n1 (d := d) h1)
    go_enter Tryd.func16, Tryd.ntmps16
    go_wp2_with fail
    go_ret
    rw [hc.out]; exact ⟨rfl, (Below.refl _ _).alloc (Nat.le_refl _) _⟩
  by_cases h2 : d < 1
  · have hc := Lib.hid (chk_d0 (n := n) h2)
    go_enter Tryd.func16, Tryd.ntmps16
    go_wp2_with fail
    go_ret
    rw [hc.out]; exact ⟨rfl, (Below.refl _ _).alloc (Nat.le_refl _) _⟩
  by_cases h3 : 1048576 < d
  · have hc := Lib.hid (chk_d1 (n := n) h3)
    go_enter Tryd.func16, Tryd.ntmps16
    go_wp2_with fail
    go_ret
    rw [hc.out]; exact ⟨rfl, (Below.refl _ _).alloc (Nat.le_refl _) _⟩
  by_cases h4 : 1 < gcdI n d
  · have hc := Lib.hid (chk_nc (by omega) (by omega) (by omega) (by omega) h4)
    have hne : (gcdI n d != 1) = true := by rw [bne_iff_ne]; omega
    go_enter Tryd.func16, Tryd.ntmps16
    go_wp2_with fail
    refine (gcd_any n d _ (by omega) (by omega) (by omega) (by omega)).mono ?_
    rintro e w' ⟨rfl, rfl⟩
    go_wp2_with fail
    go_ret
    rw [hc.out]; exact ⟨rfl, (Below.refl _ _).alloc (Nat.le_refl _) _⟩
  · have hc := Lib.hid (chk_co (n := n) (d := d) (by omega) (by omega) (by omega) (by omega) (by omega))
    have hp := gcdI_pos n d (by omega)
    have hne : (gcdI n d != 1) = false := by simp; omega
    go_enter Tryd.func16, Tryd.ntmps16
    go_wp2_with fail
    refine (gcd_any n d _ (by omega) (by omega) (by omega) (by omega)).mono ?_
    rintro e w' ⟨rfl, rfl⟩
    go_wp2_with fail
    go_ret
    rw [hc.out]; exact ⟨rfl, (Below.refl _ _).alloc (Nat.le_refl _) _⟩

/-- The error of two times: that of the first, or else that of the second. -/
def chk2 (a b c d : Int) : Int := if chk a b = 0 then chk c d else chk a b

set_option maxHeartbeats 1000000 in
theorem checkBoth_any (a b c d : Int) (w : World) :
    Calls Tryd.prog 50 #[tv a b, tv c d] w fun e w' => e = .returned (.int .i64 (chk2 a b c d)) ∧ Below w.heap.size w w' := by
  by_cases h : chk a b = 0
  · have hc := Lib.hid (show chk2 a b c d = chk c d by unfold chk2; rw [if_pos h])
    have hne : (chk a b != 0) = false := by simp [h]
    clear h
    go_enter Tryd.func50, Tryd.ntmps50
    go_wp2_with fail
    refine (check_any a b _).mono ?_
    rintro e w1 ⟨rfl, hb1⟩
    obtain ⟨hc1, hf1⟩ := bcell hb1
    go_wp2_with fail
    refine (check_any c d _).mono ?_
    rintro e w2 ⟨rfl, hb2⟩
    go_wp2_with fail
    go_ret
    rw [hc.out]; exact ⟨rfl, ((((Below.refl _ _).alloc (Nat.le_refl _) _).alloc (by simp) _).trans (hb1.mono (by simp; omega))).trans (hb2.mono (by have := hb1.size; simp at this; omega))⟩
  · have hc := Lib.hid (show chk2 a b c d = chk a b by unfold chk2; rw [if_neg h])
    have hne : (chk a b != 0) = true := by simp [h]
    clear h
    go_enter Tryd.func50, Tryd.ntmps50
    go_wp2_with fail
    refine (check_any a b _).mono ?_
    rintro e w1 ⟨rfl, hb1⟩
    go_wp2_with fail
    go_ret
    rw [hc.out]; exact ⟨rfl, (((Below.refl _ _).alloc (Nat.le_refl _) _).alloc (by simp) _).trans (hb1.mono (by simp; omega))⟩

set_option maxHeartbeats 1000000 in
theorem both_any (a b c d : Int) (w : World) :
    Calls Tryd.prog 49 #[tv a b, tv c d] w fun e w' => e = .returned (.int .i64 (chk2 a b c d)) ∧ Below w.heap.size w w' := by
  by_cases h : chk a b = 0
  · have hc := Lib.hid (show chk2 a b c d = chk c d by unfold chk2; rw [if_pos h])
    have hne : (chk a b != 0) = false := by simp [h]
    clear h
    go_enter Tryd.func49, Tryd.ntmps49
    go_wp2_with fail
    refine (rcheck_any a b _).mono ?_
    rintro e w1 ⟨rfl, hb1⟩
    obtain ⟨hc1, hf1⟩ := bcell hb1
    go_wp2_with fail
    refine (rcheck_any c d _).mono ?_
    rintro e w2 ⟨rfl, hb2⟩
    go_wp2_with fail
    go_ret
    rw [hc.out]; exact ⟨rfl, ((((Below.refl _ _).alloc (Nat.le_refl _) _).alloc (by simp) _).trans (hb1.mono (by simp; omega))).trans (hb2.mono (by have := hb1.size; simp at this; omega))⟩
  · have hc := Lib.hid (show chk2 a b c d = chk a b by unfold chk2; rw [if_neg h])
    have hne : (chk a b != 0) = true := by simp [h]
    clear h
    go_enter Tryd.func49, Tryd.ntmps49
    go_wp2_with fail
    refine (rcheck_any a b _).mono ?_
    rintro e w1 ⟨rfl, hb1⟩
    go_wp2_with fail
    go_ret
    rw [hc.out]; exact ⟨rfl, (((Below.refl _ _).alloc (Nat.le_refl _) _).alloc (by simp) _).trans (hb1.mono (by simp; omega))⟩

end Go.Proofs.YtjgkliiofechfaaDoor
