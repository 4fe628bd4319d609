/- Contract of lowest terms: span.lowest. -/
import Derived.Test.YthokapebcplmkaaGcd
import Derived.BigQuiet
import Derived.Deep.QuietTactic
import Derived.RegionTactic
namespace Go.Proofs.Ythokapebcplmkaa
open Go.RowKit

/-- What is below the heap's end of w still reads as it did: cells and marks. -/
theorem bcell {W w1 : World} {B : Nat} (hb : Below B W w1) : (∀ b o, b < B → w1.cell? ⟨b, o, none⟩ = W.cell? ⟨b, o, none⟩) ∧ (∀ b o, b < B → w1.frozen? ⟨b, o, none⟩ = W.frozen? ⟨b, o, none⟩) :=
  ⟨fun b o h => hb.cell (p := ⟨b, o, none⟩) h, fun b o h => hb.frozen (p := ⟨b, o, none⟩) h⟩

theorem bl {w a b : World} (h : Below w.heap.size w a) (k : Below a.heap.size a b) : Below w.heap.size w b := h.trans (k.mono h.size)
theorem ba {w a : World} (h : Below w.heap.size w a) (o : Obj) : Below w.heap.size w (a.alloc o) := h.alloc h.size o
theorem bs {w a : World} (h : Below w.heap.size w a) {p : Addr} (hp : w.heap.size ≤ p.block) (u : Value) : Below w.heap.size w (a.setCell p u) := h.setCell hp u
theorem sz3 {w a : World} (h : w.heap.size + 2 < a.heap.size) : w.heap.size < a.heap.size ∧ w.heap.size + 1 < a.heap.size ∧ w.heap.size + 1 + 1 < a.heap.size := by omega
theorem br (w : World) : Below w.heap.size w w := Below.refl _ _

/-- Block b holds a time that may be written. -/
structure Own2 (w : World) (b : Nat) (n d : Int) : Prop where
  inb : b < w.heap.size
  c0 : w.cell? ⟨b, 0, none⟩ = some (.int .i64 n)
  c1 : w.cell? ⟨b, 1, none⟩ = some (.int .i64 d)
  f0 : w.frozen? ⟨b, 0, none⟩ = false
  f1 : w.frozen? ⟨b, 1, none⟩ = false

theorem Own2.below {w w1 : World} {b B : Nat} {n d : Int} (h : Own2 w b n d) (k : Below B w w1) (hB : b < B) : Own2 w1 b n d :=
  ⟨Nat.lt_of_lt_of_le h.inb k.size, (k.cell (p := ⟨b, 0, none⟩) hB).trans h.c0, (k.cell (p := ⟨b, 1, none⟩) hB).trans h.c1, (k.frozen (p := ⟨b, 0, none⟩) hB).trans h.f0, (k.frozen (p := ⟨b, 1, none⟩) hB).trans h.f1⟩

theorem Own2.later {w w1 : World} {b : Nat} {n d : Int} (h : Own2 w b n d) (k : Below w.heap.size w w1) : Own2 w1 b n d := h.below k h.inb

theorem Own2.made (w : World) (n d : Int) (t : TypeId) : Own2 (w.alloc (.cells #[.int .i64 n, .int .i64 d] t)) w.heap.size n d :=
  ⟨by simp, by simp [go_sem], by simp [go_sem], by simp [go_sem], by simp [go_sem]⟩

/-- A time and an error, as a call hands them back. -/
abbrev tev (r : Int × Int × Int) : Value := .tuple #[.agg #[.int .i64 r.1, .int .i64 r.2.1], .int .i64 r.2.2]

/-- A time as a call hands it back. -/
abbrev tv (n d : Int) : Value := .agg #[.int .i64 n, .int .i64 d]

end Go.Proofs.Ythokapebcplmkaa
