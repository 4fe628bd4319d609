/- A sign's literal block, at a step of a drawn region. -/
import Derived.Test.YthokapebcplmkaaLgLst
namespace Go.Proofs.Ythokapebcplmkaa
open Go.RowKit

set_option maxHeartbeats 1000000 in
theorem run_lit_sg (s : Sg) (w : World) : (Instr.buildSlice 24 1 #[(0, sgv s)]).run Try.prog w = .ok (.slice (some ⟨w.heap.size, 0, none⟩) 1 1) (w.alloc (sgO s)) := by
  unfold sgv sgO sgA
  simp [Instr.buildSlice, newRow, go_sem]

theorem step_lit {ops : Array Oper} {o : Oper} {a : Act} {w : World} {K : Act → World → Prop} {Q : Exit → Act → World → Prop} {E : Prop} (hgd : o.guard = none) (x : Operand) (ho : o.op = .buildSlice 24 1 #[(0, x)]) (s : Sg) (hx : a.eval x = sgv s)
    (h : K (a.put o.dst (.slice (some ⟨w.heap.size, 0, none⟩) 1 1)) (w.alloc (sgO s))) :
    if Region.wanted o (yielded ops a.tmps) = true then Oper.wp Try.prog o a w K Q else E := by
  have hw : Region.wanted o (yielded ops a.tmps) = true := by simp [Region.wanted, hgd]
  rw [if_pos hw]
  have hr := run_lit_sg s w
  rw [← hx] at hr
  unfold Oper.wp execOp
  simp only [ho, Sem.run_bind, Sem.run_pure, List.map_toArray, List.map_cons, List.map_nil]
  rw [hr]
  exact h

end Go.Proofs.Ythokapebcplmkaa
