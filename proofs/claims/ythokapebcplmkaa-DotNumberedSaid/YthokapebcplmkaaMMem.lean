/- Mensurations in memory: what every walk over package mens and its reference needs. -/
import Derived.Test.YthokapebcplmkaaKMem
namespace Go.Proofs.Ythokapebcplmkaa
open Go.RowKit

/-- A mensuration's four numbers: Max, Mod, Tem, Pro. -/
abbrev Q4 := Int × Int × Int × Int
abbrev mv (q : Q4) : Value := .agg #[.int .i64 q.1, .int .i64 q.2.1, .int .i64 q.2.2.1, .int .i64 q.2.2.2]
abbrev mO (q : Q4) : Obj := .cells #[.int .i64 q.1, .int .i64 q.2.1, .int .i64 q.2.2.1, .int .i64 q.2.2.2] 23
abbrev nO (q : Q4) : Obj := .cells #[.int .i64 q.1, .int .i64 q.2.1, .int .i64 q.2.2.1, .int .i64 q.2.2.2] 82
/-- Block b holds a mensuration that may be written. -/
structure Cell4 (w : World) (b : Nat) (q : Q4) : Prop where
  inb : b < w.heap.size
  c0 : w.cell? ⟨b, 0, none⟩ = some (.int .i64 q.1)
  c1 : w.cell? ⟨b, 1, none⟩ = some (.int .i64 q.2.1)
  c2 : w.cell? ⟨b, 2, none⟩ = some (.int .i64 q.2.2.1)
  c3 : w.cell? ⟨b, 3, none⟩ = some (.int .i64 q.2.2.2)
  f0 : w.frozen? ⟨b, 0, none⟩ = false
  f1 : w.frozen? ⟨b, 1, none⟩ = false
  f2 : w.frozen? ⟨b, 2, none⟩ = false
  f3 : w.frozen? ⟨b, 3, none⟩ = false
theorem Cell4.made (w : World) (q : Q4) (t : TypeId) : Cell4 (w.alloc (.cells #[.int .i64 q.1, .int .i64 q.2.1, .int .i64 q.2.2.1, .int .i64 q.2.2.2] t)) w.heap.size q := ⟨by simp, by go_simp, by go_simp, by go_simp, by go_simp, by go_simp, by go_simp, by go_simp, by go_simp⟩
theorem Cell4.later {w w1 : World} {b : Nat} {q : Q4} (h : Cell4 w b q) (k : Below w.heap.size w w1) : Cell4 w1 b q :=
  ⟨Nat.lt_of_lt_of_le h.inb k.size, (k.cell (p := ⟨b, 0, none⟩) h.inb).trans h.c0, (k.cell (p := ⟨b, 1, none⟩) h.inb).trans h.c1, (k.cell (p := ⟨b, 2, none⟩) h.inb).trans h.c2, (k.cell (p := ⟨b, 3, none⟩) h.inb).trans h.c3,
    (k.frozen (p := ⟨b, 0, none⟩) h.inb).trans h.f0, (k.frozen (p := ⟨b, 1, none⟩) h.inb).trans h.f1, (k.frozen (p := ⟨b, 2, none⟩) h.inb).trans h.f2, (k.frozen (p := ⟨b, 3, none⟩) h.inb).trans h.f3⟩
theorem Cell4.kept {w w1 : World} {row : Option Nat} {b : Nat} {q : Q4} (h : Cell4 w b q) (hg : w.grownBy w1 row) (hne : some b ≠ row) : Cell4 w1 b q := by
  have e := hg.block b h.inb hne
  exact ⟨Nat.lt_of_lt_of_le h.inb hg.size, (World.cell?_of_block (a := ⟨b, 0, none⟩) e).trans h.c0, (World.cell?_of_block (a := ⟨b, 1, none⟩) e).trans h.c1, (World.cell?_of_block (a := ⟨b, 2, none⟩) e).trans h.c2, (World.cell?_of_block (a := ⟨b, 3, none⟩) e).trans h.c3,
    (World.frozen?_of_block (a := ⟨b, 0, none⟩) e).trans h.f0, (World.frozen?_of_block (a := ⟨b, 1, none⟩) e).trans h.f1, (World.frozen?_of_block (a := ⟨b, 2, none⟩) e).trans h.f2, (World.frozen?_of_block (a := ⟨b, 3, none⟩) e).trans h.f3⟩

end Go.Proofs.Ythokapebcplmkaa
