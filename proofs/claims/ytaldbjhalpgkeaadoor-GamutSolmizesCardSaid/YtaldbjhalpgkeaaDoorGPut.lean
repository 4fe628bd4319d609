/- A block of the call's own: what its cells hold, kept along calls and stores. -/
import Derived.Test.YtaldbjhalpgkeaaDoorGMem
import Derived.RangeFuncBox
namespace Go.Proofs.YtaldbjhalpgkeaaDoor
open Go.RowKit

theorem gkept {W : World} {b j k c : Nat} {u v : Value} (h : W.cell? ⟨b, j, none⟩ = some u) (hj : b ≠ c ∨ j ≠ k) : (W.setCell ⟨c, k, none⟩ v).cell? ⟨b, j, none⟩ = some u := by
  rw [World.cell?_setCell_other _ _ _ _ (by intro e; injection e with e1 e2 _; rcases hj with x | x; exact x e1.symm; exact x e2.symm)]; exact h
/-- Block b holds these cells, and they may be written. -/
def HoldsB (W : World) (b : Nat) (t : TypeId) (cs : Array Value) : Prop := W.heap[b]? = some (.cells cs t (0, 0))
theorem HoldsB.lt {W : World} {b : Nat} {t : TypeId} {cs : Array Value} (h : HoldsB W b t cs) : b < W.heap.size := (Array.getElem?_eq_some_iff.1 h).1
theorem HoldsB.cell {W : World} {b : Nat} {t : TypeId} {cs : Array Value} (h : HoldsB W b t cs) {j : Nat} {v : Value} (e : cs[j]? = some v) : W.cell? ⟨b, j, none⟩ = some v := by
  simp [World.cell?, show W.heap[b]? = _ from h, e]
theorem HoldsB.frozen {W : World} {b : Nat} {t : TypeId} {cs : Array Value} (h : HoldsB W b t cs) (j : Nat) : W.frozen? ⟨b, j, none⟩ = false := by
  simp [World.frozen?, show W.heap[b]? = _ from h]
theorem HoldsB.new (W : World) (t : TypeId) (cs : Array Value) : HoldsB (W.alloc (.cells cs t)) W.heap.size t cs := World.alloc_heap_new W _
theorem HoldsB.later {W W' : World} {b : Nat} {t : TypeId} {cs : Array Value} (h : HoldsB W b t cs) (k : Below W.heap.size W W') : HoldsB W' b t cs := (k.block b h.lt).trans h
theorem HoldsB.al {W : World} {b : Nat} {t : TypeId} {cs : Array Value} (h : HoldsB W b t cs) (o : Obj) : HoldsB (W.alloc o) b t cs := h.later (w_alloc (w_refl W) o)
theorem HoldsB.other {W : World} {b c : Nat} {t : TypeId} {cs : Array Value} (h : HoldsB W b t cs) (hne : b ≠ c) (j : Nat) (u : Value) : HoldsB (W.setCell ⟨c, j, none⟩ u) b t cs := (Below.heap_setCell _ _ _ _ hne).trans h
theorem HoldsB.set {W : World} {b : Nat} {t : TypeId} {cs : Array Value} (h : HoldsB W b t cs) (j : Nat) (u : Value) : HoldsB (W.setCell ⟨b, j, none⟩ u) b t (cs.setIfInBounds j u) := by
  obtain ⟨hlt, hk⟩ := Array.getElem?_eq_some_iff.1 h
  show (W.heap.modify b _)[b]? = _
  rw [Array.getElem?_eq_getElem (by rw [Array.size_modify]; exact hlt), Array.getElem_modify_self, hk]
  rfl
theorem HoldsB.kept {W W' : World} {row : Option Nat} {b : Nat} {t : TypeId} {cs : Array Value} (h : HoldsB W b t cs) (hg : W.grownBy W' row) (hne : some b ≠ row) : HoldsB W' b t cs := (hg.block b h.lt hne).trans h
theorem holds_own {β : Type} (b : Nat) (t : TypeId) (f : β → Array Value) : Own (fun s W => HoldsB W b t (f s)) := fun s X Y row hs hg hrow =>
  hs.kept hg (fun e' => by obtain ⟨o, ho, hc⟩ := hrow b e'.symm; rw [show X.heap[b]? = _ from hs] at ho; cases ho; cases hc)
/-- A store into a block of the call's own. -/
theorem w_put {w a : World} (h : Below w.heap.size w a) {b : Nat} (hb : w.heap.size ≤ b) (j : Nat) (u : Value) : Below w.heap.size w (a.setCell ⟨b, j, none⟩ u) := h.setCell hb u

theorem OwnFrom.bel {β : Type} {B : Nat} {I : β → World → Prop} (h : OwnFrom B I) {s : β} {A A' : World} (hs : I s A) (b : Below A.heap.size A A') : I s A' :=
  h s A A' none hs ⟨b.os, b.tape, b.output, b.size, fun k hk _ => b.block k hk⟩ (fun r e => by cases e)
theorem OwnFrom.up {β : Type} {B B' : Nat} {I : β → World → Prop} (h : OwnFrom B I) (k : B ≤ B') : OwnFrom B' I :=
  fun s A A' row hs hg hr => h s A A' row hs hg (fun r e => ⟨Nat.le_trans k (hr r e).1, (hr r e).2⟩)
theorem keeps_bel (B : Nat) {A A' : World} (b : Below A.heap.size A A') : KeepsFrom B A A' :=
  ⟨b.size, fun k _ _ hk _ => (b.block k (Array.getElem?_eq_some_iff.1 hk).1).trans hk⟩

end Go.Proofs.YtaldbjhalpgkeaaDoor
