/- Mensurations by definition: which are valid, their parts, durations, perfect values, texts and numbers. -/
import Derived.Test.YthokapebcplmkaaMMem
import Derived.Test.YthokapebcplmkaaMath
namespace Go.Proofs.Ythokapebcplmkaa

def two (x : Int) : Prop := x = 2 ∨ x = 3
instance (x : Int) : Decidable (two x) := by unfold two; infer_instance
def okM (q : Q4) : Prop := two q.1 ∧ two q.2.1 ∧ two q.2.2.1 ∧ two q.2.2.2
instance (q : Q4) : Decidable (okM q) := by unfold okM; infer_instance
/-- The mensuration of a number. -/
def ofN (n : Int) : Q4 := (2 + n / 8, 2 + n / 4 % 2, 2 + n / 2 % 2, 2 + n % 2)
def mensL : List Q4 := (List.range 16).map (fun i : Nat => ofN (i : Int))
theorem mens_iff (q : Q4) : q ∈ mensL ↔ okM q := by
  constructor
  · have h : ∀ q ∈ mensL, okM q := by decide
    exact h q
  · obtain ⟨a, b, c, d⟩ := q
    rintro ⟨h1, h2, h3, h4⟩
    simp only [two] at h1 h2 h3 h4
    rcases h1 with rfl | rfl <;> rcases h2 with rfl | rfl <;> rcases h3 with rfl | rfl <;> rcases h4 with rfl | rfl <;> decide
def chkM (q : Q4) : Int := if okM q then 0 else 12
theorem chkM_ok {q : Q4} (h : okM q) : chkM q = 0 := if_pos h
theorem chkM_no {q : Q4} (h : ¬ okM q) : chkM q = 12 := if_neg h
/-- The parts of a value. -/
def pI (q : Q4) (v : Int) : Int := if v = 1 then q.1 else if v = 2 then q.2.1 else if v = 3 then q.2.2.1 else if v = 4 then q.2.2.2 else 2
/-- The error of a mensuration, then of a value. -/
def valE (q : Q4) (v : Int) : Int := if okM q then (if 1 ≤ v ∧ v ≤ 8 then 0 else 2) else 12
def okV (v : Int) : Prop := 1 ≤ v ∧ v ≤ 8
theorem valE_ok {q : Q4} {v : Int} (h : okM q) (k : 1 ≤ v ∧ v ≤ 8) : valE q v = 0 := by unfold valE; rw [if_pos h, if_pos k]
theorem valE_no {q : Q4} {v : Int} (h : ¬ okM q) : valE q v = 12 := by unfold valE; rw [if_neg h]
theorem valE_out {q : Q4} {v : Int} (h : okM q) (k : ¬ (1 ≤ v ∧ v ≤ 8)) : valE q v = 2 := by unfold valE; rw [if_pos h, if_neg k]
theorem valE_zero {q : Q4} {v : Int} (h : valE q v = 0) : okM q ∧ 1 ≤ v ∧ v ≤ 8 := by
  unfold valE at h
  split at h
  · split at h
    · exact ⟨‹_›, ‹_›⟩
    · cases h
  · cases h
/-- The product of the parts from v up to g. -/
def upI (q : Q4) (v : Int) : Nat → Int
  | 0 => 1
  | k + 1 => upI q v k * pI q (v + (k : Int))
def minI (q : Q4) (v : Int) : Int := upI q v (5 - v).toNat
def pieI (v : Int) : Int := 2 ^ (v - 5).toNat
/-- The full duration and the error. -/
def fulV (q : Q4) (v : Int) : Int × Int × Int := if valE q v = 0 then (minI q v, pieI v, 0) else (0, 0, valE q v)
def valsL : List Int := [1, 2, 3, 4, 5, 6, 7, 8]
theorem vals_iff (v : Int) : v ∈ valsL ↔ 1 ≤ v ∧ v ≤ 8 := by
  simp only [valsL, List.mem_cons, List.not_mem_nil, or_false]; omega
theorem pI_two {q : Q4} (h : okM q) (v : Int) : pI q v = 2 ∨ pI q v = 3 := by
  obtain ⟨h1, h2, h3, h4⟩ := h
  unfold pI
  unfold two at *
  split
  · exact h1
  split
  · exact h2
  split
  · exact h3
  split
  · exact h4
  exact .inl rfl
theorem pI_small (q : Q4) {v : Int} (h : 5 ≤ v) : pI q v = 2 := by
  unfold pI; rw [if_neg (by omega), if_neg (by omega), if_neg (by omega), if_neg (by omega)]
theorem up_bd {q : Q4} (hq : okM q) {v : Int} (hv : 1 ≤ v) : ∀ k : Nat, v + k ≤ 5 → 1 ≤ upI q v k ∧ upI q v k ≤ 81 := by
  have hm := (mens_iff q).2 hq
  have hall : ∀ q ∈ mensL, ∀ v ∈ ([1, 2, 3, 4, 5] : List Int), ∀ k ∈ List.range 5, v + (k : Int) ≤ 5 → 1 ≤ upI q v k ∧ upI q v k ≤ 81 := by decide +kernel
  intro k hk
  exact hall q hm v (by simp only [List.mem_cons, List.not_mem_nil, or_false]; omega) k (by simp only [List.mem_range]; omega) hk
theorem up_step {q : Q4} (hq : okM q) {v : Int} (hv : 1 ≤ v) (k : Nat) (hk : v + k < 5) : IntKind.i64.wrap (upI q v k * pI q (v + (k : Int))) = upI q v (k + 1) := by
  have := up_bd hq hv (k + 1) (by omega)
  show _ = upI q v k * pI q (v + (k : Int))
  rw [IntWalk.i64_in]
  have e : upI q v (k + 1) = upI q v k * pI q (v + (k : Int)) := rfl
  omega
theorem pow_step (k : Nat) (h : k ≤ 3) : IntKind.i64.wrap (2 ^ k * 2) = (2 : Int) ^ (k + 1) := by
  have hall : ∀ k ∈ List.range 4, IntKind.i64.wrap (2 ^ k * 2) = (2 : Int) ^ (k + 1) := by decide +kernel
  exact hall k (by simp only [List.mem_range]; omega)
theorem min_bd {q : Q4} (hq : okM q) {v : Int} (hv : 1 ≤ v ∧ v ≤ 8) : 1 ≤ minI q v ∧ minI q v ≤ 81 := by
  unfold minI
  by_cases h : v ≤ 5
  · exact up_bd hq hv.1 _ (by omega)
  · rw [show (5 - v).toNat = 0 by omega]; exact ⟨Int.le_refl 1, (by decide : (1 : Int) ≤ 81)⟩
theorem pie_bd {v : Int} (hv : 1 ≤ v ∧ v ≤ 8) : 1 ≤ pieI v ∧ pieI v ≤ 8 := by
  have hall : ∀ v ∈ valsL, 1 ≤ pieI v ∧ pieI v ≤ 8 := by decide +kernel
  exact hall v ((vals_iff v).2 hv)
end Go.Proofs.Ythokapebcplmkaa
