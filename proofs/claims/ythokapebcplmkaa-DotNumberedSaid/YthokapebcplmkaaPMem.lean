/- Pitches in memory: what every walk over package pitch and its reference needs. -/
import Derived.Test.YthokapebcplmkaaProg
import Derived.WalkKit
import Derived.WalkSpells
import Derived.WalkLawsBesides
import Derived.WalkMore
import Derived.WalkSmall
import Derived.Lib.Hide
import Derived.Lib.Strings
import Derived.Lib.IndexBytes
import Derived.BigQuiet
import Derived.Deep.QuietTactic
import Derived.RegionTactic
import Derived.Deep.RegionHeld3
import Derived.OwnWalk
namespace Go.Proofs.Ythokapebcplmkaa
open Go.RowKit

theorem w_below {w a b : World} (h : Below w.heap.size w a) (k : Below a.heap.size a b) : Below w.heap.size w b := h.trans (k.mono h.size)
theorem w_alloc {w a : World} (h : Below w.heap.size w a) (o : Obj) : Below w.heap.size w (a.alloc o) := h.alloc h.size o
theorem w_set {w a : World} (h : Below w.heap.size w a) {p : Addr} (hp : w.heap.size ≤ p.block) (u : Value) : Below w.heap.size w (a.setCell p u) := h.setCell hp u
theorem w_refl (w : World) : Below w.heap.size w w := Below.refl _ _
theorem ka {w : World} {p : Addr} {v : Value} (h : w.cell? p = some v) (o : Obj) : (w.alloc o).cell? p = some v := by
  exact (World.cell?_of_block (w := w) (Below.heap_alloc w o _ (World.block_lt_of_cell? w p h))).trans h

/-- A pitch's three numbers. -/
abbrev Pi3 := Int × Int × Int
abbrev pv (p : Pi3) : Value := .agg #[.int .i64 p.1, .int .i64 p.2.1, .int .i64 p.2.2]
/-- Block b holds a pitch that may be written. -/
structure Cell3 (w : World) (b : Nat) (p : Pi3) : Prop where
  inb : b < w.heap.size
  c0 : w.cell? ⟨b, 0, none⟩ = some (.int .i64 p.1)
  c1 : w.cell? ⟨b, 1, none⟩ = some (.int .i64 p.2.1)
  c2 : w.cell? ⟨b, 2, none⟩ = some (.int .i64 p.2.2)
  f0 : w.frozen? ⟨b, 0, none⟩ = false
  f1 : w.frozen? ⟨b, 1, none⟩ = false
  f2 : w.frozen? ⟨b, 2, none⟩ = false
theorem Cell3.made (w : World) (p : Pi3) (t : TypeId) : Cell3 (w.alloc (.cells #[.int .i64 p.1, .int .i64 p.2.1, .int .i64 p.2.2] t)) w.heap.size p := ⟨by simp, by go_simp, by go_simp, by go_simp, by go_simp, by go_simp, by go_simp⟩
theorem Cell3.below {w w1 : World} {b B : Nat} {p : Pi3} (h : Cell3 w b p) (k : Below B w w1) (hB : b < B) : Cell3 w1 b p :=
  ⟨Nat.lt_of_lt_of_le h.inb k.size, (k.cell (p := ⟨b, 0, none⟩) hB).trans h.c0, (k.cell (p := ⟨b, 1, none⟩) hB).trans h.c1, (k.cell (p := ⟨b, 2, none⟩) hB).trans h.c2,
    (k.frozen (p := ⟨b, 0, none⟩) hB).trans h.f0, (k.frozen (p := ⟨b, 1, none⟩) hB).trans h.f1, (k.frozen (p := ⟨b, 2, none⟩) hB).trans h.f2⟩
theorem Cell3.later {w w1 : World} {b : Nat} {p : Pi3} (h : Cell3 w b p) (k : Below w.heap.size w w1) : Cell3 w1 b p := h.below k h.inb

end Go.Proofs.Ythokapebcplmkaa
