/- Contracts of the checks of times, of making a time, and of the kit's T. -/
import Derived.Test.YtcomjcflllfobaaDoorMLow
import Derived.WalkSmall
namespace Go.Proofs.YtcomjcflllfobaaDoor
open Go.RowKit

theorem chk_n0 {n d : Int} (h : n < 0) : chk n d = 2 := by unfold chk; rw [if_pos (by omega)]
theorem chk_n1 {n d : Int} (h : 1099511627776 < n) : chk n d = 2 := by unfold chk; rw [if_pos (by omega)]
theorem chk_d0 {n d : Int} (h : d < 1) : chk n d = 2 := by unfold chk; rw [if_pos (by omega)]
theorem chk_d1 {n d : Int} (h : 1048576 < d) : chk n d = 2 := by unfold chk; rw [if_pos (by omega)]
theorem chk_co {n d : Int} (h0 : 0 ≤ n) (h1 : n ≤ 1099511627776) (h2 : 1 ≤ d) (h3 : d ≤ 1048576) (h : gcdI n d ≤ 1) : chk n d = 0 := by
  unfold chk; rw [if_neg (by omega), if_pos]; have := gcdI_pos n d h2; omega
theorem chk_nc {n d : Int} (h0 : 0 ≤ n) (h1 : n ≤ 1099511627776) (h2 : 1 ≤ d) (h3 : d ≤ 1048576) (h : 1 < gcdI n d) : chk n d = 3 := by
  unfold chk; rw [if_neg (by omega), if_neg]; omega

/-- Making a time. -/
def makeV (n d : Int) : Int × Int × Int := if n < 0 ∨ d < 0 then (0, 0, 2) else if d = 0 then (0, 0, 5) else low n d
theorem makeV_neg {n d : Int} (h : n < 0 ∨ d < 0) : makeV n d = (0, 0, 2) := by unfold makeV; rw [if_pos h]
theorem makeV_zero {n d : Int} (h : 0 ≤ n) (k : d = 0) : makeV n d = (0, 0, 5) := by unfold makeV; rw [if_neg (by omega), if_pos k]
theorem makeV_ok {n d : Int} (h : 0 ≤ n) (k : 1 ≤ d) : makeV n d = low n d := by unfold makeV; rw [if_neg (by omega), if_neg (by omega)]

set_option maxHeartbeats 1000000 in
theorem make_any (n d : Int) (w : World) (hn1 : n ≤ 9223372036854775807) (hd1 : d ≤ 9223372036854775807) :
    Calls Tryd.prog 84 #[.int .i64 n, .int .i64 d] w fun e w' => e = .returned (tev (makeV n d)) ∧ Below w.heap.size w w' := by
  by_cases h0 : n < 0
  · have hs := Lib.hid (makeV_neg (n := n) (d := d) (.inl h0))
    go_enter Tryd.func84, Tryd.ntmps84
    go_wp2_with fail
    refine bodyPost_ret (v := .tuple #[.agg #[.int .i64 0, .int .i64 0], .int .i64 2]) (by simp [results, Tryd.results84, go_sem]) rfl ⟨by rw [hs.out], ?_⟩
    exact ba (br _) _
  by_cases h1 : d < 0
  · have hs := Lib.hid (makeV_neg (n := n) (d := d) (.inr h1))
    go_enter Tryd.func84, Tryd.ntmps84
    go_wp2_with fail
    refine bodyPost_ret (v := .tuple #[.agg #[.int .i64 0, .int .i64 0], .int .i64 2]) (by simp [results, Tryd.results84, go_sem]) rfl ⟨by rw [hs.out], ?_⟩
    exact ba (br _) _
  by_cases h2 : d = 0
  · have hs := Lib.hid (makeV_zero (n := n) (d := d) (by omega) h2)
    have hz : (d == 0) = true := by simp [h2]
    clear h2
    go_enter Tryd.func84, Tryd.ntmps84
    go_wp2_with fail
    refine bodyPost_ret (v := .tuple #[.agg #[.int .i64 0, .int .i64 0], .int .i64 5]) (by simp [results, Tryd.results84, go_sem]) rfl ⟨by rw [hs.out], ?_⟩
    exact ba (br _) _
  · have hs := Lib.hid (makeV_ok (n := n) (d := d) (by omega) (by omega))
    have hz : (d == 0) = false := by simp [h2]
    go_enter Tryd.func84, Tryd.ntmps84
    go_wp2_with fail
    refine (lowest_any n d _ (by omega) (by omega) (by omega) (by omega)).mono ?_
    rintro e w1 ⟨rfl, hb1⟩
    obtain ⟨hc1, hf1⟩ := bcell hb1
    go_wp2_with fail
    refine bodyPost_ret (v := tev (low n d)) (by simp [results, Tryd.results84, go_sem, hc1]) rfl ⟨by rw [hs.out], ?_⟩
    exact bs (bs (bl (ba (br _) _) hb1) (by simp) _) (by simp) _

end Go.Proofs.YtcomjcflllfobaaDoor
