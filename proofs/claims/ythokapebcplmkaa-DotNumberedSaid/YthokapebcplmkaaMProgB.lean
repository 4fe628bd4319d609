/- Full durations, of the program and of the reference. -/
import Derived.Test.YthokapebcplmkaaMProgA
import Derived.Test.YthokapebcplmkaaMSpan
namespace Go.Proofs.Ythokapebcplmkaa
open Go.RowKit

def pwI (k : Nat) : Int := 2 ^ k
theorem pw_step (k : Nat) (h : k ≤ 2) : IntKind.i64.wrap (pwI k * 2) = pwI (k + 1) ∧ IntKind.i64.wrap (2 * pwI k) = pwI (k + 1) := by
  have hall : ∀ k ∈ List.range 3, IntKind.i64.wrap (pwI k * 2) = pwI (k + 1) ∧ IntKind.i64.wrap (2 * pwI k) = pwI (k + 1) := by decide +kernel
  exact hall k (by simp only [List.mem_range]; omega)
theorem pw_bd (k : Nat) (h : k ≤ 3) : 1 ≤ pwI k ∧ pwI k ≤ 8 := by
  have hall : ∀ k ∈ List.range 4, 1 ≤ pwI k ∧ pwI k ≤ 8 := by decide +kernel
  exact hall k (by simp only [List.mem_range]; omega)
theorem make_full {q : Q4} (hq : okM q) {v : Int} (hv : 1 ≤ v ∧ v ≤ 8) : makeV (minI q v) (pieI v) = (minI q v, pieI v, 0) := by
  have hall : ∀ q ∈ mensL, ∀ v ∈ valsL, makeV (minI q v) (pieI v) = (minI q v, pieI v, 0) := by decide +kernel
  exact hall q ((mens_iff q).2 hq) v ((vals_iff v).2 hv)

theorem Own2.kept {w w1 : World} {row : Option Nat} {b : Nat} {n d : Int} (h : Own2 w b n d) (hg : w.grownBy w1 row) (hne : some b ≠ row) : Own2 w1 b n d := by
  have e := hg.block b h.inb hne
  exact ⟨Nat.lt_of_lt_of_le h.inb hg.size, (World.cell?_of_block (a := ⟨b, 0, none⟩) e).trans h.c0, (World.cell?_of_block (a := ⟨b, 1, none⟩) e).trans h.c1,
    (World.frozen?_of_block (a := ⟨b, 0, none⟩) e).trans h.f0, (World.frozen?_of_block (a := ⟨b, 1, none⟩) e).trans h.f1⟩
theorem time_put {w1 : World} {b : Nat} {n0 d0 : Int} (h : Own2 w1 b n0 d0) (M D : Int) :
    (w1.setCell ⟨b, 0, none⟩ (.int .i64 M)).cell? ⟨b, 0, none⟩ = some (.int .i64 M) ∧ ((w1.setCell ⟨b, 0, none⟩ (.int .i64 M)).setCell ⟨b, 1, none⟩ (.int .i64 D)).cell? ⟨b, 1, none⟩ = some (.int .i64 D) :=
  ⟨World.cell?_setCell_same' _ _ _ (by rw [h.c0]; rfl), World.cell?_setCell_same' _ _ _ (by rw [gkept h.c1 (.inr (by decide))]; rfl)⟩
theorem fulV_ok {q : Q4} {v : Int} (h : valE q v = 0) : fulV q v = (minI q v, pieI v, 0) := by unfold fulV; rw [if_pos h]
theorem fulV_no {q : Q4} {v : Int} (h : ¬ valE q v = 0) : fulV q v = (0, 0, valE q v) := by unfold fulV; rw [if_neg h]

end Go.Proofs.Ythokapebcplmkaa
