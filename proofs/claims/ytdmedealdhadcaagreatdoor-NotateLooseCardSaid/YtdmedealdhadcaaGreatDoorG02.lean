/- Mensurations in memory: what every walk over package mens and its reference needs. Plain facts on whole numbers for the seat's walks: greatest common divisors, fractions in lowest terms. Nothing of a program is imported here. Mensurations by definition: which are valid, their parts, durations, perfect values, texts and numbers. The checks of a mensuration and of a value, and the parts of a value, of the program and of the reference. Contracts of the greatest common divisor and of lowest terms, of the program and of the reference: both give the same plain function. Contract of lowest terms: span.lowest. Contracts of the checks of times, of making a time, and of the kit's T. Full durations, of the program and of the reference. A region that draws its order, loads cells and writes them at its end: the loads may be taken first, for whatever writes waits for them. A load may be taken first in a region that draws its order where whatever writes waits for it, by itself or through others. A region that draws its order, whose operations read and whose callees only make memory: one walk, in the order of the text; then perhaps one last operation that waits for all others. -/
import Derived.Test.YtdmedealdhadcaaGreatDoorG01
import Derived.Test.YtdmedealdhadcaaGreatDoorProg
import Derived.WalkKit
import Derived.WalkSpells
import Derived.WalkLawsBesides
import Derived.Lib.Hide
import Derived.BigQuiet
import Derived.Deep.QuietTactic
import Derived.RegionTactic
import Derived.WalkSmall
import Derived.Deep.RegionHeld

namespace Go.Proofs.YtdmedealdhadcaaGreatDoor
open Go.RowKit
/-- A mensuration's four numbers: Max, Mod, Tem, Pro. -/
abbrev Q4 := Int × Int × Int × Int
abbrev mv (q : Q4) : Value := .agg #[.int .i64 q.1, .int .i64 q.2.1, .int .i64 q.2.2.1, .int .i64 q.2.2.2]
abbrev mO (q : Q4) : Obj := .cells #[.int .i64 q.1, .int .i64 q.2.1, .int .i64 q.2.2.1, .int .i64 q.2.2.2] 23
abbrev nO (q : Q4) : Obj := .cells #[.int .i64 q.1, .int .i64 q.2.1, .int .i64 q.2.2.1, .int .i64 q.2.2.2] 155
/-- Block b holds a mensuration that may be written. -/
structure Cell4 (w : World) (b : Nat) (q : Q4) : Prop where
  inb : b < w.heap.size
  c0 : w.cell? ⟨b, 0, none⟩ = some (.int .i64 q.1)
  c1 : w.cell? ⟨b, 1, none⟩ = some (.int .i64 q.2.1)
  c2 : w.cell? ⟨b, 2, none⟩ = some (.int .i64 q.2.2.1)
  c3 : w.cell? ⟨b, 3, none⟩ = some (.int .i64 q.2.2.2)
  f0 : w.frozen? ⟨b, 0, none⟩ = false
  f1 : w.frozen? ⟨b, 1, none⟩ = false
  f2 : w.frozen? ⟨b, 2, none⟩ = false
  f3 : w.frozen? ⟨b, 3, none⟩ = false
theorem Cell4.made (w : World) (q : Q4) (t : TypeId) : Cell4 (w.alloc (.cells #[.int .i64 q.1, .int .i64 q.2.1, .int .i64 q.2.2.1, .int .i64 q.2.2.2] t)) w.heap.size q := ⟨by simp, by go_simp, by go_simp, by go_simp, by go_simp, by go_simp, by go_simp, by go_simp, by go_simp⟩
theorem Cell4.later {w w1 : World} {b : Nat} {q : Q4} (h : Cell4 w b q) (k : Below w.heap.size w w1) : Cell4 w1 b q :=
  ⟨Nat.lt_of_lt_of_le h.inb k.size, (k.cell (p := ⟨b, 0, none⟩) h.inb).trans h.c0, (k.cell (p := ⟨b, 1, none⟩) h.inb).trans h.c1, (k.cell (p := ⟨b, 2, none⟩) h.inb).trans h.c2, (k.cell (p := ⟨b, 3, none⟩) h.inb).trans h.c3,
    (k.frozen (p := ⟨b, 0, none⟩) h.inb).trans h.f0, (k.frozen (p := ⟨b, 1, none⟩) h.inb).trans h.f1, (k.frozen (p := ⟨b, 2, none⟩) h.inb).trans h.f2, (k.frozen (p := ⟨b, 3, none⟩) h.inb).trans h.f3⟩
theorem Cell4.kept {w w1 : World} {row : Option Nat} {b : Nat} {q : Q4} (h : Cell4 w b q) (hg : w.grownBy w1 row) (hne : some b ≠ row) : Cell4 w1 b q := by
  have e := hg.block b h.inb hne
  exact ⟨Nat.lt_of_lt_of_le h.inb hg.size, (World.cell?_of_block (a := ⟨b, 0, none⟩) e).trans h.c0, (World.cell?_of_block (a := ⟨b, 1, none⟩) e).trans h.c1, (World.cell?_of_block (a := ⟨b, 2, none⟩) e).trans h.c2, (World.cell?_of_block (a := ⟨b, 3, none⟩) e).trans h.c3,
    (World.frozen?_of_block (a := ⟨b, 0, none⟩) e).trans h.f0, (World.frozen?_of_block (a := ⟨b, 1, none⟩) e).trans h.f1, (World.frozen?_of_block (a := ⟨b, 2, none⟩) e).trans h.f2, (World.frozen?_of_block (a := ⟨b, 3, none⟩) e).trans h.f3⟩
end Go.Proofs.YtdmedealdhadcaaGreatDoor

namespace Go.Proofs.YtdmedealdhadcaaGreatDoor
/-- The greatest common divisor of two integers, as an integer. -/
def gcdI (a b : Int) : Int := ((Nat.gcd a.natAbs b.natAbs : Nat) : Int)
/-- What the program and the reference give for n divided by d: numerator, denominator, error. -/
def low (n d : Int) : Int × Int × Int :=
  if n / gcdI n d ≤ 1099511627776 ∧ d / gcdI n d ≤ 1048576 then (n / gcdI n d, d / gcdI n d, 0) else (0, 0, 4)
end Go.Proofs.YtdmedealdhadcaaGreatDoor

namespace Go.Proofs.YtdmedealdhadcaaGreatDoor
def two (x : Int) : Prop := x = 2 ∨ x = 3
instance (x : Int) : Decidable (two x) := by unfold two; infer_instance
def okM (q : Q4) : Prop := two q.1 ∧ two q.2.1 ∧ two q.2.2.1 ∧ two q.2.2.2
instance (q : Q4) : Decidable (okM q) := by unfold okM; infer_instance
/-- The mensuration of a number. -/
def ofN (n : Int) : Q4 := (2 + n / 8, 2 + n / 4 % 2, 2 + n / 2 % 2, 2 + n % 2)
def mensL : List Q4 := (List.range 16).map (fun i : Nat => ofN (i : Int))
theorem mens_iff (q : Q4) : q ∈ mensL ↔ okM q := by
  constructor
  · have h : ∀ q ∈ mensL, okM q := by decide
    exact h q
  · obtain ⟨a, b, c, d⟩ := q
    rintro ⟨h1, h2, h3, h4⟩
    simp only [two] at h1 h2 h3 h4
    rcases h1 with rfl | rfl <;> rcases h2 with rfl | rfl <;> rcases h3 with rfl | rfl <;> rcases h4 with rfl | rfl <;> decide
def chkM (q : Q4) : Int := if okM q then 0 else 12
theorem chkM_ok {q : Q4} (h : okM q) : chkM q = 0 := if_pos h
theorem chkM_no {q : Q4} (h : ¬ okM q) : chkM q = 12 := if_neg h
end Go.Proofs.YtdmedealdhadcaaGreatDoor

namespace Go.Proofs.YtdmedealdhadcaaGreatDoor
open Go.RowKit
def nthQ (q : Q4) : Nat → Int
  | 0 => q.1
  | 1 => q.2.1
  | 2 => q.2.2.1
  | _ => q.2.2.2
theorem ok_of_all {q : Q4} (h : ∀ j, j < 4 → two (nthQ q j)) : okM q := ⟨h 0 (by omega), h 1 (by omega), h 2 (by omega), h 3 (by omega)⟩
theorem no_of {q : Q4} {j : Nat} (hj : j < 4) (h : ¬ two (nthQ q j)) : ¬ okM q := by
  rintro ⟨h1, h2, h3, h4⟩
  have c : j = 0 ∨ j = 1 ∨ j = 2 ∨ j = 3 := by omega
  rcases c with rfl | rfl | rfl | rfl
  · exact h h1
  · exact h h2
  · exact h h3
  · exact h h4
theorem all_more {q : Q4} {k : Nat} (h : ∀ j, j < k → two (nthQ q j)) (hk : two (nthQ q k)) : ∀ j, j < k + 1 → two (nthQ q j) := by
  intro j hj
  by_cases e : j = k
  · rw [e]; exact hk
  · exact h j (by omega)
theorem not_two {x : Int} (h : ¬ two x) : (x == 2) = false ∧ (x == 3) = false ∧ (x != 2) = true ∧ (x != 3) = true := by
  unfold two at h
  have h2 : x ≠ 2 := fun e => h (.inl e)
  have h3 : x ≠ 3 := fun e => h (.inr e)
  simp [h2, h3]
theorem numsOf_any (q : Q4) (w : World) : Calls Tryz.prog 112 #[mv q] w fun e w' => e = .returned (mv q) ∧ Below w.heap.size w w' := by
  obtain ⟨a, b, c, d⟩ := q
  go_enter Tryz.func112, Tryz.ntmps112
  go_wp2_with fail
  refine bodyPost_ret (v := mv (a, b, c, d)) (by simp [results, Tryz.results112, go_sem]) rfl ⟨rfl, ?_⟩
  exact w_alloc (w_alloc (w_refl w) _) _
set_option maxHeartbeats 4000000 in
theorem mcheck_any (q : Q4) (w : World) : Calls Tryz.prog 62 #[mv q] w fun e w' => e = .returned (.int .i64 (chkM q)) ∧ Below w.heap.size w w' := by
  obtain ⟨a, b, c, d⟩ := q
  have NU := Lib.hid (fun W => numsOf_any (a, b, c, d) W)
  have K := Lib.hid (Cell4.made w (a, b, c, d) 23)
  have i0 : ∀ w, (Instr.index 155 (.agg #[.int .i64 a, .int .i64 b, .int .i64 c, .int .i64 d]) (.int .i64 0)).run Tryz.prog w = .ok (.int .i64 a) w := fun _ => by kernel_rfl
  have i1 : ∀ w, (Instr.index 155 (.agg #[.int .i64 a, .int .i64 b, .int .i64 c, .int .i64 d]) (.int .i64 1)).run Tryz.prog w = .ok (.int .i64 b) w := fun _ => by kernel_rfl
  have i2 : ∀ w, (Instr.index 155 (.agg #[.int .i64 a, .int .i64 b, .int .i64 c, .int .i64 d]) (.int .i64 2)).run Tryz.prog w = .ok (.int .i64 c) w := fun _ => by kernel_rfl
  have i3 : ∀ w, (Instr.index 155 (.agg #[.int .i64 a, .int .i64 b, .int .i64 c, .int .i64 d]) (.int .i64 3)).run Tryz.prog w = .ok (.int .i64 d) w := fun _ => by kernel_rfl
  go_enter Tryz.func62, Tryz.ntmps62
  go_wp2_with fail
  refine (NU.out _).mono ?_
  rintro e w1 ⟨rfl, hb⟩
  have hB := Lib.hid (w_below (w_alloc (w_refl w) _) hb)
  clear hb K NU
  go_wp2_with fail
  go_loopw [7] (fun i wr => ∃ k : Nat, k ≤ 4 ∧ i = .int .i64 k ∧ Hid (∀ j, j < k → two (nthQ (a, b, c, d) j)) ∧ Hid (Below w.heap.size w wr)) (fun i _ => 4 - (intOf i).toNat)
  case atStart => exact ⟨0, by omega, rfl, Lib.hid (fun j hj => by omega), hB⟩
  case round =>
    obtain ⟨k, hk, rfl, hal, hbr⟩ := hrel
    have ck : k = 0 ∨ k = 1 ∨ k = 2 ∨ k = 3 ∨ k = 4 := by omega
    clear hB
    rcases ck with rfl | rfl | rfl | rfl | rfl
    · by_cases h : two a
      · have hal2 := Lib.hid (all_more hal.out (show two (nthQ (a, b, c, d) 0) from h))
        clear hal
        rcases h with rfl | rfl
        all_goals
          go_wp2_with fail
          go_roundw
          case rel => exact ⟨1, by omega, rfl, hal2, hbr⟩
          case measure => simp [intOf]
      · obtain ⟨e1, e2, e3, e4⟩ := not_two h
        have hn := Lib.hid (chkM_no (no_of (q := (a, b, c, d)) (j := 0) (by omega) h))
        clear h hal
        go_wp2_with fail
        go_ret
        exact ⟨by first | (rw [hn.out]; rfl) | rw [hn.out], hbr.out⟩
    · by_cases h : two b
      · have hal2 := Lib.hid (all_more hal.out (show two (nthQ (a, b, c, d) 1) from h))
        clear hal
        rcases h with rfl | rfl
        all_goals
          go_wp2_with fail
          go_roundw
          case rel => exact ⟨2, by omega, rfl, hal2, hbr⟩
          case measure => simp [intOf]
      · obtain ⟨e1, e2, e3, e4⟩ := not_two h
        have hn := Lib.hid (chkM_no (no_of (q := (a, b, c, d)) (j := 1) (by omega) h))
        clear h hal
        go_wp2_with fail
        go_ret
        exact ⟨by first | (rw [hn.out]; rfl) | rw [hn.out], hbr.out⟩
    · by_cases h : two c
      · have hal2 := Lib.hid (all_more hal.out (show two (nthQ (a, b, c, d) 2) from h))
        clear hal
        rcases h with rfl | rfl
        all_goals
          go_wp2_with fail
          go_roundw
          case rel => exact ⟨3, by omega, rfl, hal2, hbr⟩
          case measure => simp [intOf]
      · obtain ⟨e1, e2, e3, e4⟩ := not_two h
        have hn := Lib.hid (chkM_no (no_of (q := (a, b, c, d)) (j := 2) (by omega) h))
        clear h hal
        go_wp2_with fail
        go_ret
        exact ⟨by first | (rw [hn.out]; rfl) | rw [hn.out], hbr.out⟩
    · by_cases h : two d
      · have hal2 := Lib.hid (all_more hal.out (show two (nthQ (a, b, c, d) 3) from h))
        clear hal
        rcases h with rfl | rfl
        all_goals
          go_wp2_with fail
          go_roundw
          case rel => exact ⟨4, by omega, rfl, hal2, hbr⟩
          case measure => simp [intOf]
      · obtain ⟨e1, e2, e3, e4⟩ := not_two h
        have hn := Lib.hid (chkM_no (no_of (q := (a, b, c, d)) (j := 3) (by omega) h))
        clear h hal
        go_wp2_with fail
        go_ret
        exact ⟨by first | (rw [hn.out]; rfl) | rw [hn.out], hbr.out⟩
    · have hn := Lib.hid (chkM_ok (ok_of_all hal.out))
      clear hal
      go_wp2_with fail
      go_ret
      exact ⟨by first | (rw [hn.out]; rfl) | rw [hn.out], hbr.out⟩
end Go.Proofs.YtdmedealdhadcaaGreatDoor

namespace Go.Proofs.YtdmedealdhadcaaGreatDoor
open Go.RowKit
end Go.Proofs.YtdmedealdhadcaaGreatDoor

namespace Go.Proofs.YtdmedealdhadcaaGreatDoor
open Go.RowKit
theorem bl {w a b : World} (h : Below w.heap.size w a) (k : Below a.heap.size a b) : Below w.heap.size w b := h.trans (k.mono h.size)
theorem ba {w a : World} (h : Below w.heap.size w a) (o : Obj) : Below w.heap.size w (a.alloc o) := h.alloc h.size o
theorem bs {w a : World} (h : Below w.heap.size w a) {p : Addr} (hp : w.heap.size ≤ p.block) (u : Value) : Below w.heap.size w (a.setCell p u) := h.setCell hp u
theorem br (w : World) : Below w.heap.size w w := Below.refl _ _
/-- Block b holds a time that may be written. -/
structure Own2 (w : World) (b : Nat) (n d : Int) : Prop where
  inb : b < w.heap.size
  c0 : w.cell? ⟨b, 0, none⟩ = some (.int .i64 n)
  c1 : w.cell? ⟨b, 1, none⟩ = some (.int .i64 d)
  f0 : w.frozen? ⟨b, 0, none⟩ = false
  f1 : w.frozen? ⟨b, 1, none⟩ = false
theorem Own2.below {w w1 : World} {b B : Nat} {n d : Int} (h : Own2 w b n d) (k : Below B w w1) (hB : b < B) : Own2 w1 b n d :=
  ⟨Nat.lt_of_lt_of_le h.inb k.size, (k.cell (p := ⟨b, 0, none⟩) hB).trans h.c0, (k.cell (p := ⟨b, 1, none⟩) hB).trans h.c1, (k.frozen (p := ⟨b, 0, none⟩) hB).trans h.f0, (k.frozen (p := ⟨b, 1, none⟩) hB).trans h.f1⟩
theorem Own2.later {w w1 : World} {b : Nat} {n d : Int} (h : Own2 w b n d) (k : Below w.heap.size w w1) : Own2 w1 b n d := h.below k h.inb
theorem Own2.made (w : World) (n d : Int) (t : TypeId) : Own2 (w.alloc (.cells #[.int .i64 n, .int .i64 d] t)) w.heap.size n d :=
  ⟨by simp, by simp [go_sem], by simp [go_sem], by simp [go_sem], by simp [go_sem]⟩
end Go.Proofs.YtdmedealdhadcaaGreatDoor

namespace Go.Proofs.YtdmedealdhadcaaGreatDoor
open Go.RowKit
end Go.Proofs.YtdmedealdhadcaaGreatDoor

namespace Go.Proofs.YtdmedealdhadcaaGreatDoor
open Go.RowKit
theorem Own2.kept {w w1 : World} {row : Option Nat} {b : Nat} {n d : Int} (h : Own2 w b n d) (hg : w.grownBy w1 row) (hne : some b ≠ row) : Own2 w1 b n d := by
  have e := hg.block b h.inb hne
  exact ⟨Nat.lt_of_lt_of_le h.inb hg.size, (World.cell?_of_block (a := ⟨b, 0, none⟩) e).trans h.c0, (World.cell?_of_block (a := ⟨b, 1, none⟩) e).trans h.c1,
    (World.frozen?_of_block (a := ⟨b, 0, none⟩) e).trans h.f0, (World.frozen?_of_block (a := ⟨b, 1, none⟩) e).trans h.f1⟩
end Go.Proofs.YtdmedealdhadcaaGreatDoor

namespace Go.Proofs.YtdmedealdhadcaaGreatDoor
section
variable {P : Program} {md : Region.Mode} {ops : Array Oper} {Q : Exit → Act → World → Prop} {S : World → Prop} {late : List Nat}
/-- One of the late operations has come up. -/
def lateIn (late : List Nat) (ls : Array Bool) : Bool := late.any fun j => ls.getD j false
theorem lateIn_iff {ls : Array Bool} : lateIn late ls = true ↔ ∃ j ∈ late, ls.getD j false = true := by
  unfold lateIn; rw [List.any_eq_true]
theorem lateIn_set {ls : Array Bool} {i : Nat} (h : lateIn late ls = true) : lateIn late (ls.setIfInBounds i true) = true := by
  obtain ⟨j, hj, h1⟩ := lateIn_iff.1 h
  exact lateIn_iff.2 ⟨j, hj, getD_set_true h1⟩
theorem lateIn_not {ls : Array Bool} {i : Nat} (hi : late.contains i = false) (h : lateIn late (ls.setIfInBounds i true) = true) : lateIn late ls = true := by
  obtain ⟨j, hj, h1⟩ := lateIn_iff.1 h
  have hne : i ≠ j := fun e => by
    subst e
    have : late.contains i = true := by simpa using hj
    rw [hi] at this; cases this
  rw [getD_set_ne false hne] at h1
  exact lateIn_iff.2 ⟨j, hj, h1⟩
/-- Whatever order is drawn; S holds till a late operation has come up. -/
def wpL (P : Program) (md : Region.Mode) (ops : Array Oper) (Q : Exit → Act → World → Prop) (S : World → Prop) (late : List Nat) : Nat → Array Bool → Act → World → Prop
  | 0, ls, a, w => Region.ready md ops ls = [] ∧ Q .normal a w
  | n + 1, ls, a, w => (Region.ready md ops ls = [] → Q .normal a w) ∧
      ∀ j ∈ Region.ready md ops ls, wpOp P ops Q j (fun b u => (S u ∨ lateIn late (ls.setIfInBounds j true) = true) ∧ wpL P md ops Q S late n (ls.setIfInBounds j true) b u) a w
theorem wpL_any : ∀ (n : Nat) (ls : Array Bool) (a : Act) (w : World), wpL P md ops Q S late n ls a w → wpAny P md ops Q n ls a w
  | 0, _, _, _, h => h
  | n + 1, _, _, _, h => ⟨h.1, fun j hj => wpOp_mono (fun b u x => wpL_any n _ b u x.2) (h.2 j hj)⟩
/-- Whatever is late waits for number i. -/
def waits (md : Region.Mode) (ops : Array Oper) (late : List Nat) (i : Nat) : Bool :=
  late.all fun j => match ops[j]? with | some o => o.after.any (fun e => Region.binds md e && e.on == i) | none => true
theorem getD_both {ls : Array Bool} {i : Nat} (h : ls.getD i true = false) : ls.getD i false = false := by
  rcases Nat.lt_or_ge i ls.size with h1 | h1
  · simp [h1] at h ⊢; exact h
  · simp [Array.getElem?_eq_none h1]
theorem waits_spec {i j : Nat} {ls : Array Bool} (h : waits md ops late i = true) (hj : j ∈ Region.ready md ops ls) (hi : ls.getD i false = false) : late.contains j = false := by
  obtain ⟨_, o, ho, hall⟩ := mem_ready.1 hj
  cases hc : late.contains j with
  | false => rfl
  | true =>
    have h1 := List.all_eq_true.1 h j (by simpa using hc)
    rw [ho] at h1
    obtain ⟨e, he, hb⟩ := Array.any_eq_true'.1 h1
    simp only [Bool.and_eq_true, beq_iff_eq] at hb
    have := hall e he hb.1
    rw [hb.2, hi] at this
    cases this
/-- A load that may come up is taken first. -/
theorem wpL_first {i : Nat} {oi : Oper} {v : Value} (hi : ops[i]? = some oi) (hs : Region.noSelect ops = true) (hl : waits md ops late i = true) (hil : late.contains i = false)
    (hQ : ∀ c a w, Q (.panic c) (a.put oi.dst v) w → Q (.panic c) a w) : ∀ (n : Nat) (ls : Array Bool) (a : Act) (w : World),
    (∀ j oj, ops[j]? = some oj → j ≠ i → ls.getD j true = false → (∀ e ∈ oj.after, Region.binds md e = true → e.on ≠ i) → oi.apart ops oj = true) →
    i ∈ Region.ready md ops ls → YieldsIf P ops S oi v a → S w → lateIn late ls = false → wpL P md ops Q S late n (ls.setIfInBounds i true) (a.put oi.dst v) w → wpL P md ops Q S late (n + 1) ls a w := by
  intro n
  induction n with
  | zero =>
    intro ls a w _ hr hy hS _ H
    refine ⟨fun h => (by rw [h] at hr; cases hr), fun j hj => ?_⟩
    by_cases e : j = i
    · subst e; exact hy.wpOp hi hS ⟨.inl hS, H⟩
    · have := ready_mono hj e
      rw [H.1] at this; cases this
  | succ n ih =>
    intro ls a w hfree hr hy hS hN H
    refine ⟨fun h => (by rw [h] at hr; cases hr), fun j hj => ?_⟩
    by_cases e : j = i
    · subst e; exact hy.wpOp hi hS ⟨.inl hS, H⟩
    · have hun := (mem_ready.1 hr).1
      have hunf := getD_both hun
      have hjl := waits_spec hl hj hunf
      obtain ⟨hju, oj, hoj, hall⟩ := mem_ready.1 hj
      have hno : ∀ x ∈ oj.after, Region.binds md x = true → x.on ≠ i := fun x hx hb y => by
        have := hall x hx hb
        rw [y, hunf] at this; cases this
      have step := wpOp_putIf hoj (hfree j oj hoj e hju hno) (fun cs b => Region.noSelect_spec hs i oi cs b hi) (fun cs b => Region.noSelect_spec hs j oj cs b hoj) hQ hy (H.2 j (ready_mono hj e))
      refine wpOp_mono (fun b u x => ?_) step
      obtain ⟨y1, y2, y3⟩ := x
      have hN2 : lateIn late (ls.setIfInBounds j true) = false := by
        cases hc : lateIn late (ls.setIfInBounds j true) with
        | false => rfl
        | true => rw [lateIn_not hjl hc] at hN; cases hN
      have hSu : S u := y2.resolve_right (fun z => by
        rw [Array.setIfInBounds_comm _ _ (Ne.symm e)] at z
        rw [lateIn_not hil z] at hN2; cases hN2)
      refine ⟨.inl hSu, ih (ls.setIfInBounds j true) b u (fun k ok hk hki hku hkn => hfree k ok hk hki ?_ hkn) (ready_mono hr (Ne.symm e)) y1 hSu hN2 ?_⟩
      · by_cases z : j = k
        · subst z; exact hju
        · rwa [getD_set_ne true z] at hku
      · rwa [Array.setIfInBounds_comm _ _ e]
/-- What yields its value in whatever world is taken first. -/
theorem wpL_first0 {i : Nat} {oi : Oper} {v : Value} (hi : ops[i]? = some oi) (hs : Region.noSelect ops = true) (hil : late.contains i = false)
    (hQ : ∀ c a w, Q (.panic c) (a.put oi.dst v) w → Q (.panic c) a w) : ∀ (n : Nat) (ls : Array Bool) (a : Act) (w : World),
    (∀ j oj, ops[j]? = some oj → j ≠ i → ls.getD j true = false → (∀ e ∈ oj.after, Region.binds md e = true → e.on ≠ i) → oi.apart ops oj = true) →
    i ∈ Region.ready md ops ls → Yields P ops oi v a → (S w ∨ lateIn late ls = true) → wpL P md ops Q S late n (ls.setIfInBounds i true) (a.put oi.dst v) w → wpL P md ops Q S late (n + 1) ls a w := by
  intro n
  induction n with
  | zero =>
    intro ls a w _ hr hy hS H
    refine ⟨fun h => (by rw [h] at hr; cases hr), fun j hj => ?_⟩
    by_cases e : j = i
    · subst e; exact hy.wpOp hi ⟨hS.imp id lateIn_set, H⟩
    · have := ready_mono hj e
      rw [H.1] at this; cases this
  | succ n ih =>
    intro ls a w hfree hr hy hS H
    refine ⟨fun h => (by rw [h] at hr; cases hr), fun j hj => ?_⟩
    by_cases e : j = i
    · subst e; exact hy.wpOp hi ⟨hS.imp id lateIn_set, H⟩
    · have hunf := getD_both (mem_ready.1 hr).1
      obtain ⟨hju, oj, hoj, hall⟩ := mem_ready.1 hj
      have hno : ∀ x ∈ oj.after, Region.binds md x = true → x.on ≠ i := fun x hx hb y => by
        have := hall x hx hb
        rw [y, hunf] at this; cases this
      have step := wpOp_put hoj (hfree j oj hoj e hju hno) (fun cs b => Region.noSelect_spec hs i oi cs b hi) (fun cs b => Region.noSelect_spec hs j oj cs b hoj) hQ hy (H.2 j (ready_mono hj e))
      refine wpOp_mono (fun b u x => ?_) step
      obtain ⟨y1, y2, y3⟩ := x
      have hSu : S u ∨ lateIn late (ls.setIfInBounds j true) = true := y2.imp id (fun z => by
        rw [Array.setIfInBounds_comm _ _ (Ne.symm e)] at z
        exact lateIn_not hil z)
      refine ⟨hSu, ih (ls.setIfInBounds j true) b u (fun k ok hk hki hku hkn => hfree k ok hk hki ?_ hkn) (ready_mono hr (Ne.symm e)) y1 hSu ?_⟩
      · by_cases z : j = k
        · subst z; exact hju
        · rwa [getD_set_ne true z] at hku
      · rwa [Array.setIfInBounds_comm _ _ e]
theorem wpL_load {i : Nat} {oi : Oper} {v : Value} {n : Nat} {ls : Array Bool} {a : Act} {w : World} (hi : ops[i]? = some oi) (hs : Region.noSelect ops = true) (hl : waits md ops late i = true)
    (hil : late.contains i = false) (hf : Region.free md ops ls i = true) (hr : (Region.ready md ops ls).contains i = true) (hQ : ∀ c a w, Q (.panic c) (a.put oi.dst v) w → Q (.panic c) a w)
    (hy : YieldsIf P ops S oi v a) (hS : S w) (hN : lateIn late ls = false) (h : wpL P md ops Q S late n (ls.setIfInBounds i true) (a.put oi.dst v) w) : wpL P md ops Q S late (n + 1) ls a w :=
  wpL_first hi hs hl hil hQ n ls a w (Region.free_spec hi hf) (by simpa using hr) hy hS hN h
theorem wpL_take {i : Nat} {oi : Oper} {v : Value} {n : Nat} {ls : Array Bool} {a : Act} {w : World} (hi : ops[i]? = some oi) (hs : Region.noSelect ops = true)
    (hil : late.contains i = false) (hf : Region.free md ops ls i = true) (hr : (Region.ready md ops ls).contains i = true) (hQ : ∀ c a w, Q (.panic c) (a.put oi.dst v) w → Q (.panic c) a w)
    (hy : Yields P ops oi v a) (hS : S w ∨ lateIn late ls = true) (h : wpL P md ops Q S late n (ls.setIfInBounds i true) (a.put oi.dst v) w) : wpL P md ops Q S late (n + 1) ls a w :=
  wpL_first0 hi hs hil hQ n ls a w (Region.free_spec hi hf) (by simpa using hr) hy hS h
/-- Each of the operations 'rs' comes up next. -/
def AllL (P : Program) (md : Region.Mode) (ops : Array Oper) (Q : Exit → Act → World → Prop) (S : World → Prop) (late : List Nat) (n : Nat) (ls : Array Bool) (a : Act) (w : World) (rs : List Nat) : Prop :=
  ∀ j ∈ rs, wpOp P ops Q j (fun b u => (S u ∨ lateIn late (ls.setIfInBounds j true) = true) ∧ wpL P md ops Q S late n (ls.setIfInBounds j true) b u) a w
theorem AllL.nil {n : Nat} {ls : Array Bool} {a : Act} {w : World} : AllL P md ops Q S late n ls a w [] := fun _ h => by cases h
theorem AllL.cons {n : Nat} {ls : Array Bool} {a : Act} {w : World} {j : Nat} {o : Oper} {rs : List Nat} (ho : ops[j]? = some o)
    (h : ∀ K : Act → World → Prop, Shut (∀ b u, (S u ∨ lateIn late (ls.setIfInBounds j true) = true) → wpL P md ops Q S late n (ls.setIfInBounds j true) b u → K b u) → if Region.wanted o (yielded ops a.tmps) = true then Oper.wp P o a w K Q else K (a.put o.dst undef) w)
    (hs : AllL P md ops Q S late n ls a w rs) : AllL P md ops Q S late n ls a w (j :: rs) := fun k hk => by
  rcases List.mem_cons.1 hk with rfl | hk
  · exact wpOp_step ho (fun K hK => h K (fun b u x y => hK b u ⟨x, y⟩))
  · exact hs k hk
theorem wpL_ready {rs : List Nat} {n : Nat} {ls : Array Bool} {a : Act} {w : World} (hr : Region.ready md ops ls = rs) (hne : rs ≠ []) (h : AllL P md ops Q S late n ls a w rs) : wpL P md ops Q S late (n + 1) ls a w :=
  ⟨fun x => absurd (hr ▸ x) hne, hr ▸ h⟩
theorem wpL_done {ls : Array Bool} {a : Act} {w : World} (hr : Region.ready md ops ls = []) (h : Q .normal a w) : ∀ n, wpL P md ops Q S late n ls a w
  | 0 => ⟨hr, h⟩
  | _ + 1 => ⟨fun _ => h, by rw [hr]; simp⟩
end
end Go.Proofs.YtdmedealdhadcaaGreatDoor

namespace Go.Proofs.YtdmedealdhadcaaGreatDoor
section
variable {P : Program} {md : Region.Mode} {ops : Array Oper} {Q : Exit → Act → World → Prop} {S : World → Prop} {late : List Nat}
/-- Operation j waits for i, by itself or through others. -/
def needs (md : Region.Mode) (ops : Array Oper) (i : Nat) : Nat → Nat → Bool
  | 0, _ => false
  | n + 1, j => match ops[j]? with
    | some o => o.after.any (fun e => Region.binds md e && (e.on == i || needs md ops i n e.on))
    | none => false
/-- What has come up has come up behind all that it waits for. -/
def Closed (md : Region.Mode) (ops : Array Oper) (ls : Array Bool) : Prop := ∀ (j : Nat) (o : Oper), ops[j]? = some o → ls.getD j false = true → ∀ e ∈ o.after, Region.binds md e = true → ls.getD e.on false = true
theorem Closed.set {ls : Array Bool} (h : Closed md ops ls) {i : Nat} (hi : i ∈ Region.ready md ops ls) : Closed md ops (ls.setIfInBounds i true) := by
  obtain ⟨_, oi, hoi, hall⟩ := mem_ready.1 hi
  intro j o ho hj e he hb
  by_cases c : i = j
  · subst c
    rw [hoi] at ho
    cases ho
    exact getD_set_true (hall e he hb)
  · rw [getD_set_ne false c] at hj
    exact getD_set_true (h j o ho hj e he hb)
theorem needs_done {ls : Array Bool} (hc : Closed md ops ls) {i : Nat} : ∀ (n j : Nat) (o : Oper), ops[j]? = some o → (∀ e ∈ o.after, Region.binds md e = true → ls.getD e.on false = true) → needs md ops i n j = true → ls.getD i false = true
  | 0, _, _, _, _, h => by cases h
  | n + 1, j, o, ho, hall, h => by
    unfold needs at h
    rw [ho] at h
    obtain ⟨e, he, hb⟩ := Array.any_eq_true'.1 h
    simp only [Bool.and_eq_true, Bool.or_eq_true, beq_iff_eq] at hb
    have hd := hall e he hb.1
    rcases hb.2 with h1 | h1
    · rw [← h1]; exact hd
    · cases hoe : ops[e.on]? with
      | none =>
        exfalso
        cases n with
        | zero => cases h1
        | succ n => unfold needs at h1; rw [hoe] at h1; cases h1
      | some o2 => exact needs_done hc n e.on o2 hoe (fun e2 he2 hb2 => hc e.on o2 hoe hd e2 he2 hb2) h1
end
end Go.Proofs.YtdmedealdhadcaaGreatDoor

namespace Go.Proofs.YtdmedealdhadcaaGreatDoor
open Go.RowKit
/-- What has grown out of a world: nothing that stood in it is changed. -/
structure Grown (w : World) where
  W : World
  b : Below w.heap.size w W
instance (w : World) : Nonempty (Grown w) := ⟨⟨w, w_refl w⟩⟩
def Grown.on {w : World} (n : Grown w) {V : World} (h : Below n.W.heap.size n.W V) : Grown w := ⟨V, w_below n.b h⟩
/-- The class of the worlds that have grown out of one. -/
abbrev Grew (w : World) : World → Prop := fun w' => ∃ n : Grown w, w' = n.W
section
variable {P : Program} {ops : Array Oper} {Q : Exit → Act → World → Prop}
theorem wp_region_grown {id : Nat} {a : Act} {w : World} {l : List Oper} (hm : P.follows .mixedOrders = true) (hB : Region.lexB .any l.toArray = true)
    (h : wpQuiet P l.toArray (Grew w) (fun a' => ∀ n : Grown w, Q .normal a' n.W) l a) : (Code.region id l.toArray true).wp P Q a w := by
  refine wp_region_quiet (C := Grew w) (Q := Q) hm hB ⟨⟨w.drew, (w_refl w).drew⟩, rfl⟩ ?_
  have e : (fun a' => ∀ n : Grown w, Q .normal a' n.W) = (fun a' => ∀ w', Grew w w' → Q .normal a' w') := by
    funext a'
    apply propext
    constructor
    · rintro h w' ⟨n, rfl⟩; exact h n
    · intro h n; exact h n.W ⟨n, rfl⟩
  rw [← e]
  simpa using h
theorem quiet_load {C : World → Prop} {o : Oper} {rest : List Oper} {Q' : Act → Prop} {v : Value} {a a2 : Act} (hy : YieldsIf P ops C o v a) (e : a.put o.dst v = a2) (h : wpQuiet P ops C Q' rest a2) : wpQuiet P ops C Q' (o :: rest) a := by
  refine wpQuiet_step fun K hK => ?_
  rcases hy with ⟨hw, hv⟩ | ⟨hw, rfl⟩
  · rw [if_pos hw]
    refine ⟨v, fun W hW => ?_, hK _ (e ▸ h)⟩
    unfold Oper.quietAt
    rw [hv W hW]
    exact ⟨rfl, rfl⟩
  · rw [if_neg (by rw [hw]; exact Bool.false_ne_true)]
    exact hK _ (e ▸ h)
/-! ### One last operation that waits for all others -/
/-- It does nothing. -/
def nopOf (o : Oper) : Oper := { o with op := .assign (.const undef), dst := none }
variable {l : List Oper} {o : Oper} {md : Region.Mode}
theorem nop_at {j : Nat} (h : j ≠ l.length) : (l ++ [nopOf o]).toArray[j]? = (l ++ [o]).toArray[j]? := by
  simp only [List.getElem?_toArray]
  by_cases c : j < l.length
  · rw [List.getElem?_append_left c, List.getElem?_append_left c]
  · rw [List.getElem?_eq_none (by simp; omega), List.getElem?_eq_none (by simp; omega)]
theorem nop_last (x : Oper) : (l ++ [x]).toArray[l.length]? = some x := by simp
theorem nop_after (j : Nat) : ((l ++ [nopOf o]).toArray[j]?).map (·.after) = ((l ++ [o]).toArray[j]?).map (·.after) := by
  by_cases h : j = l.length
  · subst h; rw [nop_last, nop_last]; rfl
  · rw [nop_at h]
theorem nop_dst (hd : o.dst = none) (j : Nat) : ((l ++ [nopOf o]).toArray[j]?).bind (·.dst) = ((l ++ [o]).toArray[j]?).bind (·.dst) := by
  by_cases h : j = l.length
  · subst h; rw [nop_last, nop_last]; show none = o.dst; exact hd.symm
  · rw [nop_at h]
theorem nop_yielded (hd : o.dst = none) (t : Array Value) : yielded (l ++ [nopOf o]).toArray t = yielded (l ++ [o]).toArray t := by
  funext j
  unfold yielded
  rw [nop_dst hd]
theorem nop_ready (ls : Array Bool) : Region.ready md (l ++ [nopOf o]).toArray ls = Region.ready md (l ++ [o]).toArray ls := by
  have hm : ∀ (ops : Array Oper) (i : Nat), ((ops[i]?).map fun x => x.after.all fun e => !Region.binds md e || ls.getD e.on false) = ((ops[i]?).map (·.after)).map fun x => x.all fun e => !Region.binds md e || ls.getD e.on false := by
    intro ops i; cases ops[i]? <;> rfl
  unfold Region.ready
  have hs : (l ++ [nopOf o]).toArray.size = (l ++ [o]).toArray.size := by simp
  rw [hs]
  congr 1
  funext i
  rw [hm, hm, nop_after]
/-- Whatever binds an operation stands before it. -/
def ordered (md : Region.Mode) (ops : Array Oper) : Bool := (List.range ops.size).all fun j => match ops[j]? with
  | some o => o.after.all fun e => !(Region.binds md e) || decide (e.on < j)
  | none => true
theorem ordered_at {ops : Array Oper} (h : ordered md ops = true) {j : Nat} {o : Oper} (ho : ops[j]? = some o) : ∀ e ∈ o.after, Region.binds md e = true → e.on < j := by
  intro e he hb
  have h1 := List.all_eq_true.1 h j (List.mem_range.2 (Array.getElem?_eq_some_iff.1 ho).1)
  rw [ho] at h1
  have h2 := Array.all_eq_true'.1 h1 e he
  rw [hb] at h2
  simpa using h2
theorem goes_on {ops : Array Oper} (h : ordered md ops = true) {ls : Array Bool} : ∀ (n j : Nat), j < n → j < ops.size → ls.getD j true = false → Region.ready md ops ls ≠ []
  | 0, _, hn, _, _ => by omega
  | n + 1, j, hn, hj, hl => by
    have ho : ops[j]? = some ops[j] := Array.getElem?_eq_getElem hj
    by_cases c : ∀ e ∈ (ops[j]).after, Region.binds md e = true → ls.getD e.on false = true
    · intro e
      have : j ∈ Region.ready md ops ls := mem_ready.2 ⟨hl, _, ho, c⟩
      rw [e] at this
      cases this
    · have ⟨e, hc⟩ := Classical.not_forall.1 c
      have ⟨he, hc2⟩ := Classical.not_imp.1 hc
      have ⟨hb, hc3⟩ := Classical.not_imp.1 hc2
      have hlt := ordered_at h ho e he hb
      have hjl : j < ls.size := by
        rcases Nat.lt_or_ge j ls.size with g | g
        · exact g
        · simp [Array.getElem?_eq_none g] at hl
      refine goes_on h n e.on (by omega) (by omega) ?_
      have hel : e.on < ls.size := by omega
      simp [hel] at hc3 ⊢
      exact hc3
theorem any_of_last {C : World → Prop} (hd : o.dst = none) (hord : ordered md (l ++ [o]).toArray = true) (hall : ∀ i, i < l.length → needs md (l ++ [o]).toArray i (l ++ [o]).toArray.size l.length = true) :
    ∀ (n : Nat) (ls : Array Bool) (a : Act) (w : World), Closed md (l ++ [o]).toArray ls → ls.size = l.length + 1 → ls.getD l.length true = false → C w →
      wpAnyQ P md (l ++ [nopOf o]).toArray C (fun a' => ∀ W, C W → wpList P (l ++ [o]).toArray Q [o] a' W) n ls a → wpAny P md (l ++ [o]).toArray Q n ls a w := by
  have hsz : (l ++ [o]).toArray.size = l.length + 1 := by simp
  intro n
  induction n with
  | zero =>
    intro ls a w _ _ hl _ h
    have := goes_on hord (ls := ls) (l.length + 1) l.length (by omega) (by omega) hl
    exact absurd ((nop_ready (l := l) (o := o) ls) ▸ h.1) this
  | succ n ih =>
    intro ls a w hcl hls hl hC h
    refine ⟨fun e => absurd e (goes_on hord (ls := ls) (l.length + 1) l.length (by omega) (by omega) hl), fun j hj => ?_⟩
    have hq := h.2 j ((nop_ready (l := l) (o := o) ls).symm ▸ hj)
    by_cases e : j = l.length
    · subst e
      obtain ⟨_, o2, ho2, hdone⟩ := mem_ready.1 hj
      rw [nop_last] at ho2
      cases ho2
      have hnone : Region.ready md (l ++ [o]).toArray (ls.setIfInBounds l.length true) = [] := by
        apply List.eq_nil_iff_forall_not_mem.2
        intro k hk
        obtain ⟨hk0, ok, hok, _⟩ := mem_ready.1 hk
        have hkn : k ≠ l.length := fun e => by
          subst e
          simp [hls] at hk0
        have hkl : k < l.length := by
          have := (Array.getElem?_eq_some_iff.1 hok).1
          omega
        have hd2 := needs_done hcl (l ++ [o]).toArray.size l.length o (nop_last o) hdone (hall k hkl)
        rw [getD_set_ne true (Ne.symm hkn)] at hk0
        have hks : k < ls.size := by omega
        simp [hks] at hk0 hd2
        rw [hk0] at hd2; cases hd2
      have hfin : ∀ W, C W → wpList P (l ++ [o]).toArray Q [o] a W := by
        have hK : ∀ v, wpAnyQ P md (l ++ [nopOf o]).toArray C (fun a' => ∀ W, C W → wpList P (l ++ [o]).toArray Q [o] a' W) n (ls.setIfInBounds l.length true) (a.put (nopOf o).dst v) → ∀ W, C W → wpList P (l ++ [o]).toArray Q [o] a W := by
          intro v hv
          have hr2 : Region.ready md (l ++ [nopOf o]).toArray (ls.setIfInBounds l.length true) = [] := by rw [nop_ready]; exact hnone
          cases n with
          | zero => exact hv.2
          | succ n => exact hv.1 hr2
        obtain ⟨v, _, hv⟩ := yieldsIn_of_qOp (nop_last (l := l) (nopOf o)) hq
        exact hK v hv
      have hw := hfin w hC
      unfold wpList at hw
      unfold wpOp
      rw [nop_last]
      simp only
      have hdone2 : ∀ a' W, wpList P (l ++ [o]).toArray Q [] a' W → wpAny P md (l ++ [o]).toArray Q n (ls.setIfInBounds l.length true) a' W := fun a' W hq2 => wpAny_done hnone hq2 n
      split
      · rename_i hwant
        rw [if_pos hwant] at hw
        rcases hw with hw | hw
        · exact .inl (Oper.wp_mono hdone2 hw)
        · exact .inr hw
      · rename_i hwant
        rw [if_neg hwant] at hw
        exact hdone2 _ _ hw
    · refine wpOp_of_qOp (C := C) (K := wpAnyQ P md (l ++ [nopOf o]).toArray C (fun a' => ∀ W, C W → wpList P (l ++ [o]).toArray Q [o] a' W) n (ls.setIfInBounds j true)) hC (fun a' W hW hk => ih _ a' W (hcl.set hj) (by simpa using hls) (by rw [getD_set_ne true e]; exact hl) hW hk) ?_
      unfold qOp at hq ⊢
      rw [nop_at e, nop_yielded hd] at hq
      exact hq
theorem wpQuiet_app {C : World → Prop} {ops : Array Oper} {Q' : Act → Prop} (m : List Oper) : ∀ (l : List Oper) (a : Act), wpQuiet P ops C (wpQuiet P ops C Q' m) l a → wpQuiet P ops C Q' (l ++ m) a
  | [], _, h => h
  | o :: l, a, h => by
    refine wpQuiet_step fun K hK => ?_
    have h2 : if Region.wanted o (yielded ops a.tmps) then o.quiet P a C (wpQuiet P ops C (wpQuiet P ops C Q' m) l) else wpQuiet P ops C (wpQuiet P ops C Q' m) l (a.put o.dst undef) := h
    split
    · rename_i hw
      rw [if_pos hw] at h2
      exact Oper.quiet_mono (fun a' x => hK a' (wpQuiet_app m l a' x)) h2
    · rename_i hw
      rw [if_neg hw] at h2
      exact hK _ (wpQuiet_app m l _ h2)
theorem closed_none (ops : Array Oper) (n : Nat) : Closed md ops (Array.replicate n false) := by
  intro j o _ h
  simp [Array.getD_eq_getD_getElem?, Array.getElem?_replicate] at h
  split at h <;> simp at h
/-- The region with its last operation behind all others. -/
theorem wp_region_last {id : Nat} {a : Act} {w : World} (l : List Oper) (o : Oper) (hm : P.follows .mixedOrders = true) (hB : Region.lexB .any (l ++ [nopOf o]).toArray = true) (hord : ordered .any (l ++ [o]).toArray = true)
    (hall : ((List.range l.length).all fun i => needs .any (l ++ [o]).toArray i (l ++ [o]).toArray.size l.length) = true) (hd : o.dst = none) (hg : o.guard = none)
    (h : wpQuiet P (l ++ [nopOf o]).toArray (Grew w) (fun a' => ∀ n : Grown w, wpList P (l ++ [o]).toArray Q [o] a' n.W) l a) : (Code.region id (l ++ [o]).toArray true).wp P Q a w := by
  refine wp_region_any hm ?_
  have hs : (l ++ [o]).toArray.size = (l ++ [nopOf o]).toArray.size := by simp
  refine any_of_last (C := Grew w) hd hord (fun i hi => List.all_eq_true.1 hall i (List.mem_range.2 hi)) _ _ _ _ (closed_none _ _) (by simp) (by simp) ⟨⟨w.drew, (w_refl w).drew⟩, rfl⟩ ?_
  simp only [Region.lexB, Bool.and_eq_true] at hB
  rw [hs]
  have hl : (l ++ [nopOf o]).toArray.size = (l ++ [nopOf o]).length := by simp
  rw [hl]
  refine wpAnyQ_lex hB.1 (l ++ [nopOf o]) 0 _ a (by simp) (by simpa using hB.2) ?_
  refine wpQuiet_app _ _ _ ?_
  have e : (fun a' => ∀ n : Grown w, wpList P (l ++ [o]).toArray Q [o] a' n.W) = (fun a' => ∀ W, Grew w W → wpList P (l ++ [o]).toArray Q [o] a' W) := by
    funext a'
    apply propext
    constructor
    · rintro h w' ⟨n, rfl⟩; exact h n
    · intro h n; exact h n.W ⟨n, rfl⟩
  rw [e] at h
  have hm2 : ∀ (l2 : List Oper) (a : Act), wpQuiet P (l ++ [nopOf o]).toArray (Grew w) (fun a' => ∀ W, Grew w W → wpList P (l ++ [o]).toArray Q [o] a' W) l2 a → wpQuiet P (l ++ [nopOf o]).toArray (Grew w) (wpQuiet P (l ++ [nopOf o]).toArray (Grew w) (fun a' => ∀ W, Grew w W → wpList P (l ++ [o]).toArray Q [o] a' W) [nopOf o]) l2 a := by
    intro l2
    induction l2 with
    | nil =>
      intro a h
      show wpQuiet P _ _ _ [nopOf o] a
      refine wpQuiet_step fun K hK => ?_
      rw [if_pos (by unfold Region.wanted; rw [show (nopOf o).guard = none from hg])]
      exact BigFrame.quiet_assign _ rfl (hK _ h)
    | cons x l2 ih =>
      intro a h
      refine wpQuiet_step fun K hK => ?_
      have h2 : if Region.wanted x (yielded (l ++ [nopOf o]).toArray a.tmps) then x.quiet P a (Grew w) (wpQuiet P (l ++ [nopOf o]).toArray (Grew w) (fun a' => ∀ W, Grew w W → wpList P (l ++ [o]).toArray Q [o] a' W) l2) else wpQuiet P (l ++ [nopOf o]).toArray (Grew w) (fun a' => ∀ W, Grew w W → wpList P (l ++ [o]).toArray Q [o] a' W) l2 (a.put x.dst undef) := h
      split
      · rename_i hw
        rw [if_pos hw] at h2
        exact Oper.quiet_mono (fun a' y => hK a' (ih a' y)) h2
      · rename_i hw
        rw [if_neg hw] at h2
        exact hK _ (ih _ h2)
  exact hm2 l a h
theorem quiet_same {C : World → Prop} {ops ops' : Array Oper} (hy : ∀ t, yielded ops' t = yielded ops t) {Q' : Act → Prop} : ∀ (l : List Oper) (a : Act), wpQuiet P ops C Q' l a → wpQuiet P ops' C Q' l a
  | [], _, h => h
  | x :: l, a, h => by
    refine wpQuiet_step fun K hK => ?_
    have h2 : if Region.wanted x (yielded ops a.tmps) then x.quiet P a C (wpQuiet P ops C Q' l) else wpQuiet P ops C Q' l (a.put x.dst undef) := h
    rw [hy]
    split
    · rename_i hw
      rw [if_pos hw] at h2
      exact Oper.quiet_mono (fun a' y => hK a' (quiet_same hy l a' y)) h2
    · rename_i hw
      rw [if_neg hw] at h2
      exact hK _ (quiet_same hy l _ h2)
/-- The same for a region whose operations are written out. -/
theorem wp_region_last_lit {id : Nat} {a : Act} {w : World} {L : List Oper} (hne : L ≠ []) (hm : P.follows .mixedOrders = true) (hB : Region.lexB .any (L.dropLast ++ [nopOf (L.getLast hne)]).toArray = true) (hord : ordered .any L.toArray = true)
    (hall : ((List.range L.dropLast.length).all fun i => needs .any L.toArray i L.toArray.size L.dropLast.length) = true) (hd : (L.getLast hne).dst = none) (hg : (L.getLast hne).guard = none)
    (h : wpQuiet P L.toArray (Grew w) (fun a' => ∀ n : Grown w, wpList P L.toArray Q [L.getLast hne] a' n.W) L.dropLast a) : (Code.region id L.toArray true).wp P Q a w := by
  have e : L.dropLast ++ [L.getLast hne] = L := List.dropLast_concat_getLast hne
  have := wp_region_last (P := P) (Q := Q) (id := id) (a := a) (w := w) L.dropLast (L.getLast hne) hm hB (by rw [e]; exact hord) (by rw [e]; exact hall) hd hg (quiet_same (ops := L.toArray) (fun t => by rw [nop_yielded hd, e]) _ _ (by rw [e]; exact h))
  rwa [e] at this
end
end Go.Proofs.YtdmedealdhadcaaGreatDoor
