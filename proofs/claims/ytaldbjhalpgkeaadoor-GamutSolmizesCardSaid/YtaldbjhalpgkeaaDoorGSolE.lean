/- What is asked of Solmize. -/
import Derived.Test.YtaldbjhalpgkeaaDoorGRefE
namespace Go.Proofs.YtaldbjhalpgkeaaDoor
open Go.RowKit

/-- The first error of a melody's pitches. -/
def solE : List Pi3 → Int
  | [] => 0
  | p :: t => if okP p then (if waysL p = [] then 18 else solE t) else 2
def solErr (l : List Pi3) : Int := if 400 < l.length then 11 else solE l
def solL (l : List Pi3) : List Sy := if solErr l = 0 then bestL l else []
def SolPost (l : List Pi3) (w : World) (e : Ending) (w' : World) : Prop :=
  ∃ v, e = .returned (.tuple #[v, .int .i64 (movesL (solL l)), .int .i64 (solErr l)]) ∧ SylV w' v (solL l) ∧ Below w.heap.size w w'
theorem sol_sung : ∀ {l : List Pi3}, solE l = 0 → Sung l
  | [], _ => by intro p hp; simp at hp
  | q :: t, h => by
    intro p hp
    unfold solE at h
    by_cases h1 : okP q
    · rw [if_pos h1] at h
      by_cases h2 : waysL q = []
      · rw [if_pos h2] at h; exact absurd h (by decide)
      · rw [if_neg h2] at h
        rcases List.mem_cons.1 hp with rfl | hp
        · exact h2
        · exact sol_sung h p hp
    · rw [if_neg h1] at h; exact absurd h (by decide)
theorem SolPost.bad {l : List Pi3} {w w' : World} {e : Int} (h : solErr l = e) (h0 : e ≠ 0) (hb : Below w.heap.size w w') : SolPost l w (.returned (.tuple #[.slice none 0 0, .int .i64 0, .int .i64 e])) w' := by
  have hl : solL l = [] := by unfold solL; rw [h, if_neg h0]
  refine ⟨.slice none 0 0, by rw [hl, h]; rfl, ?_, hb⟩
  rw [hl]; exact SylV.none _

end Go.Proofs.YtaldbjhalpgkeaaDoor
