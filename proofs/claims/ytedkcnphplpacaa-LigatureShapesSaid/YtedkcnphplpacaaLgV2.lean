/- Pairs of numbers compared. -/
import Derived.Test.YtedkcnphplpacaaLgRefH
namespace Go.Proofs.Ytedkcnphplpacaa
open Go.RowKit

theorem v2_eqs (a b c d : Int) (w : World) : (Op.equalIn 10000 87 (v2 a b) (v2 c d)).run Try.prog w = .ok ((a == c) && (b == d)) w := by
  have hu : Try.prog.underlying 87 = some (.array 2 3) := by kernel_rfl
  have e1 : ∀ x y : Int, (Op.equalIn 9999 3 (.int .i64 x) (.int .i64 y)).run Try.prog w = .ok (x == y) w := fun x y => run_equalIn_int w 9998 3 .i64 .i64 x y Try.underlying3
  unfold Op.equalIn
  by_cases h : (a == c) = true
  · by_cases k : (b == d) = true
    · simp [run_underlying hu, e1, h, k, go_sem, show List.range' 0 2 = [0, 1] from rfl, isAgg, part]
    · have k' : (b == d) = false := by simpa using k
      simp [run_underlying hu, e1, h, k', go_sem, show List.range' 0 2 = [0, 1] from rfl, isAgg, part]
  · have h' : (a == c) = false := by simpa using h
    simp [run_underlying hu, h', go_sem, show List.range' 0 2 = [0, 1] from rfl, isAgg, part]
theorem v2_neq (a b c d : Int) (w : World) : (binOp .neq 87 (v2 a b) (v2 c d)).run Try.prog w = .ok (.bool (!((a == c) && (b == d)))) w := by
  rw [run_neq_struct, v2_eqs]; rfl
theorem v2_guard (op : BinOp) (x y : Operand) (a b c d : Int) (w : World) : (eqGuard op 87 x y (v2 a b) (v2 c d)).run Try.prog w = .ok () w :=
  run_eqGuard_agg w op 87 x y _ _ (by kernel_rfl)

end Go.Proofs.Ytedkcnphplpacaa
