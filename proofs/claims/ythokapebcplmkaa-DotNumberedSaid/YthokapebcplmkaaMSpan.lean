/- Contracts of the checks of times, of making a time, and of the kit's T. -/
import Derived.Test.YthokapebcplmkaaMLow
import Derived.WalkSmall
namespace Go.Proofs.Ythokapebcplmkaa
open Go.RowKit

theorem chk_n0 {n d : Int} (h : n < 0) : chk n d = 2 := by unfold chk; rw [if_pos (by omega)]
theorem chk_n1 {n d : Int} (h : 1099511627776 < n) : chk n d = 2 := by unfold chk; rw [if_pos (by omega)]
theorem chk_d0 {n d : Int} (h : d < 1) : chk n d = 2 := by unfold chk; rw [if_pos (by omega)]
theorem chk_d1 {n d : Int} (h : 1048576 < d) : chk n d = 2 := by unfold chk; rw [if_pos (by omega)]
theorem chk_co {n d : Int} (h0 : 0 ≤ n) (h1 : n ≤ 1099511627776) (h2 : 1 ≤ d) (h3 : d ≤ 1048576) (h : gcdI n d ≤ 1) : chk n d = 0 := by
  unfold chk; rw [if_neg (by omega), if_pos]; have := gcdI_pos n d h2; omega
theorem chk_nc {n d : Int} (h0 : 0 ≤ n) (h1 : n ≤ 1099511627776) (h2 : 1 ≤ d) (h3 : d ≤ 1048576) (h : 1 < gcdI n d) : chk n d = 3 := by
  unfold chk; rw [if_neg (by omega), if_neg]; omega

/-- Making a time. -/
def makeV (n d : Int) : Int × Int × Int := if n < 0 ∨ d < 0 then (0, 0, 2) else if d = 0 then (0, 0, 5) else low n d
theorem makeV_neg {n d : Int} (h : n < 0 ∨ d < 0) : makeV n d = (0, 0, 2) := by unfold makeV; rw [if_pos h]
theorem makeV_zero {n d : Int} (h : 0 ≤ n) (k : d = 0) : makeV n d = (0, 0, 5) := by unfold makeV; rw [if_neg (by omega), if_pos k]
theorem makeV_ok {n d : Int} (h : 0 ≤ n) (k : 1 ≤ d) : makeV n d = low n d := by unfold makeV; rw [if_neg (by omega), if_neg (by omega)]

end Go.Proofs.Ythokapebcplmkaa
