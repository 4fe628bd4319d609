/- The least costs step by step, as loops reckon them. -/
import Derived.Test.YtaldbjhalpgkeaaDoorGSpec
namespace Go.Proofs.YtaldbjhalpgkeaaDoor

theorem firstMin_snoc {α : Type} (f : α → Co) (c : α) : ∀ l : List α, firstMin f (l ++ [c]) = match firstMin f l with | none => some c | some b => if ltC (f c) (f b) then some c else some b
  | [] => rfl
  | a :: t => by
    have ih := firstMin_snoc f c t
    show (match firstMin f (t ++ [c]) with | none => some a | some b => if ltC (f b) (f a) then some b else some a) = _
    rw [ih]
    show _ = match (match firstMin f t with | none => some a | some b => if ltC (f b) (f a) then some b else some a) with | none => some c | some b => if ltC (f c) (f b) then some c else some b
    cases firstMin f t with
    | none => rfl
    | some b =>
      simp only
      by_cases h1 : ltC (f b) (f a)
      · rw [if_pos h1]
        simp only
        by_cases h2 : ltC (f c) (f b)
        · rw [if_pos h2]
          simp only
          rw [if_pos (by unfold ltC at *; omega)]
        · rw [if_neg h2]
          simp only
          rw [if_pos h1]
      · rw [if_neg h1]
        simp only
        by_cases h2 : ltC (f c) (f b)
        · rw [if_pos h2]
        · rw [if_neg h2]
          simp only
          rw [if_neg h1, if_neg (by unfold ltC at *; omega)]

/-- The least cost so far: (0, 0) of none. -/
def minC {α : Type} (f : α → Co) (l : List α) : Co := match firstMin f l with | none => (0, 0) | some b => f b
theorem minC_nil {α : Type} (f : α → Co) : minC f [] = (0, 0) := rfl
theorem minC_snoc {α : Type} (f : α → Co) (c : α) (l : List α) : minC f (l ++ [c]) = if l = [] ∨ ltC (f c) (minC f l) then f c else minC f l := by
  unfold minC
  rw [firstMin_snoc]
  by_cases h : l = []
  · subst h; rw [if_pos (.inl rfl)]; rfl
  · obtain ⟨b, hb⟩ := firstMin_some (f := f) h
    rw [hb]
    simp only
    by_cases h2 : ltC (f c) (f b)
    · rw [if_pos h2, if_pos (.inr h2)]
    · rw [if_neg h2, if_neg (by rintro (x | x); exact h x; exact h2 x)]
theorem rest_cons (q : Pi3) (t : List Pi3) (a : Sy) : restC (q :: t) a = minC (fun b => addC (costS a b) (restC t b)) (waysL q) := by
  conv => lhs; unfold restC
  unfold minC
  cases firstMin (fun b => addC (costS a b) (restC t b)) (waysL q) <;> rfl
theorem cost_le (a b : Sy) : (costS a b).1 ≤ 1 ∧ (costS a b).2 ≤ 1 := by
  unfold costS
  repeat' split
  all_goals simp
theorem minC_le {α : Type} {f : α → Co} {n : Nat} : ∀ {l : List α}, (∀ b ∈ l, (f b).1 ≤ n ∧ (f b).2 ≤ n) → (minC f l).1 ≤ n ∧ (minC f l).2 ≤ n := by
  intro l h
  unfold minC
  cases hm : firstMin f l with
  | none => simp
  | some b => exact h b (firstMin_spec hm).1
theorem rest_le : ∀ (t : List Pi3) (a : Sy), (restC t a).1 ≤ t.length ∧ (restC t a).2 ≤ t.length
  | [], _ => by simp [restC]
  | q :: t, a => by
    rw [rest_cons]
    refine minC_le fun b _ => ?_
    have h1 := cost_le a b
    have h2 := rest_le t b
    unfold addC
    simp only [List.length_cons]
    omega

/-- What stands in the tables for a place: the costs of the rest, way by way. -/
def manyL (l : List Pi3) (q : Nat) : List Int := (waysL (l.getD q (0, 0, 0))).map fun a => ((restC (l.drop (q + 1)) a).1 : Int)
def roughL (l : List Pi3) (q : Nat) : List Int := (waysL (l.getD q (0, 0, 0))).map fun a => ((restC (l.drop (q + 1)) a).2 : Int)

/-- The best list is made of first least ways. -/
theorem best_step {a : Option Sy} {q : Pi3} {t : List Pi3} {b : Sy} (h : firstMin (fun b => addC (stepO a b) (restC t b)) (waysL q) = some b) : bestO a (q :: t) = b :: bestO (some b) t := by
  conv => lhs; unfold bestO
  rw [h]

end Go.Proofs.YtaldbjhalpgkeaaDoor
