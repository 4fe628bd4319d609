/- Steps of a region that makes mensurations: an allocation and a store. -/
import Derived.Test.YtflgmeajkflobaaDoorMLadder
namespace Go.Proofs.YtflgmeajkflobaaDoor
open Go.RowKit

theorem step_alloc {ops : Array Oper} {o : Oper} {a : Act} (w : World) {K : Act → World → Prop} {Q : Exit → Act → World → Prop} {E : Prop} (hgd : o.guard = none) (hop : o.op = Op.alloc 23)
    (h : ∀ y, Below w.heap.size w y → HoldsB y w.heap.size 23 #[.int .i64 0, .int .i64 0, .int .i64 0, .int .i64 0] → K (a.put o.dst (.pointer (some ⟨w.heap.size, 0, none⟩))) y) :
    if Region.wanted o (yielded ops a.tmps) = true then Oper.wp Tryd.prog o a w K Q else E := by
  have hw : Region.wanted o (yielded ops a.tmps) = true := by simp [Region.wanted, hgd]
  rw [if_pos hw]
  have := h _ (w_alloc (w_refl w) (mO (0, 0, 0, 0))) (HoldsB.new w 23 _)
  unfold Oper.wp
  simp only [execOp, hop]
  go_simp
  exact this
theorem step_put {ops : Array Oper} {o : Oper} {a : Act} (w : World) {K : Act → World → Prop} {Q : Exit → Act → World → Prop} {E : Prop} (hgd : o.guard = none) (p x : Operand) (hop : o.op = Op.store 23 p x)
    (b : Nat) (q0 q1 : Q4) (hp : a.eval p = .pointer (some ⟨b, 0, none⟩)) (hx : a.eval x = mv q1) (hb : HoldsB w b 23 #[.int .i64 q0.1, .int .i64 q0.2.1, .int .i64 q0.2.2.1, .int .i64 q0.2.2.2])
    (h : ∀ y, (∀ c t cs, c ≠ b → HoldsB w c t cs → HoldsB y c t cs) → HoldsB y b 23 #[.int .i64 q1.1, .int .i64 q1.2.1, .int .i64 q1.2.2.1, .int .i64 q1.2.2.2] → (∀ w0 : World, Below w0.heap.size w0 w → w0.heap.size ≤ b → Below w0.heap.size w0 y) → K (a.put o.dst undef) y) :
    if Region.wanted o (yielded ops a.tmps) = true then Oper.wp Tryd.prog o a w K Q else E := by
  have hw : Region.wanted o (yielded ops a.tmps) = true := by simp [Region.wanted, hgd]
  rw [if_pos hw]
  have := h _ (fun c t cs hne hc => (((hc.other hne 0 (.int .i64 q1.1)).other hne 1 (.int .i64 q1.2.1)).other hne 2 (.int .i64 q1.2.2.1)).other hne 3 (.int .i64 q1.2.2.2))
    ((((hb.set 0 (.int .i64 q1.1)).set 1 (.int .i64 q1.2.1)).set 2 (.int .i64 q1.2.2.1)).set 3 (.int .i64 q1.2.2.2)) (fun w0 k hk => w_put (w_put (w_put (w_put k hk _ _) hk _ _) hk _ _) hk _ _)
  have e0 := hb.cell (j := 0) rfl
  have e1 := hb.cell (j := 1) rfl
  have e2 := hb.cell (j := 2) rfl
  have e3 := hb.cell (j := 3) rfl
  have ef := hb.frozen
  unfold Oper.wp
  simp only [execOp, hop, hp, hx]
  go_simp
  exact this

end Go.Proofs.YtflgmeajkflobaaDoor
