/- Pitches in lists. -/
import Derived.Test.YteomimeagloofaaDoorPSpec
import Derived.Test.YteomimeagloofaaDoorKMem
namespace Go.Proofs.YteomimeagloofaaDoor
open Go.RowKit

abbrev pO (p : Pi3) : Obj := .cells #[.int .i64 p.1, .int .i64 p.2.1, .int .i64 p.2.2] 25
/-- The cells of pitches. -/
def flatP : List Pi3 → List Value
  | [] => []
  | p :: t => .int .i64 p.1 :: .int .i64 p.2.1 :: .int .i64 p.2.2 :: flatP t
theorem flatP_len : ∀ l : List Pi3, (flatP l).length = l.length * 3
  | [] => rfl
  | s :: t => by have := flatP_len t; simp only [flatP, List.length_cons]; omega
theorem flatP_app : ∀ l m : List Pi3, flatP (l ++ m) = flatP l ++ flatP m
  | [], _ => rfl
  | s :: t, m => by show flatP (s :: (t ++ m)) = _; simp [flatP, flatP_app t m]
theorem flatP_one : ∀ l : List Pi3, ∀ u ∈ flatP l, u.oneCell' = true
  | [], u, h => by simp [flatP] at h
  | s :: t, u, h => by
    simp only [flatP, List.mem_cons] at h
    rcases h with rfl | rfl | rfl | h
    · rfl
    · rfl
    · rfl
    · exact flatP_one t u h
theorem flatP_at : ∀ (l : List Pi3) (k : Nat) (s : Pi3), l[k]? = some s → (flatP l)[k * 3]? = some (.int .i64 s.1) ∧ (flatP l)[k * 3 + 1]? = some (.int .i64 s.2.1) ∧ (flatP l)[k * 3 + 2]? = some (.int .i64 s.2.2)
  | [], k, s, h => by simp at h
  | a :: t, 0, s, h => by simp at h; subst h; exact ⟨rfl, rfl, rfl⟩
  | a :: t, k + 1, s, h => by
    have := flatP_at t k s (by simpa using h)
    rw [show (k + 1) * 3 = k * 3 + 1 + 1 + 1 by omega]
    exact this
def PitV (w : World) (v : Value) (l : List Pi3) : Prop := ∃ p cap, v = .slice p l.length cap ∧ SlP w 3 p l.length cap (flatP l)
theorem PitV.later {w w1 : World} {v : Value} {l : List Pi3} (h : PitV w v l) (b : Below w.heap.size w w1) : PitV w1 v l := by
  obtain ⟨p, cap, e, k⟩ := h; exact ⟨p, cap, e, k.later b⟩
theorem PitV.of_own {w : World} {base : Nat} {e : TypeId} {v : Value} {l : List Pi3} (h : w.ownsRow base e 3 v l.length (flatP l)) : PitV w v l := SlP.of_own h (flatP_len l) (flatP_one l)
theorem SlP.pit {w : World} {p : Option Addr} {cap : Nat} {l : List Pi3} (h : SlP w 3 p l.length cap (flatP l)) {i : Nat} {s : Pi3} (hi : l[i]? = some s) :
    ∃ b off, p = some ⟨b, off, none⟩ ∧ b < w.heap.size ∧ w.cell? ⟨b, off + i * 3, none⟩ = some (.int .i64 s.1) ∧ w.cell? ⟨b, off + i * 3 + 1, none⟩ = some (.int .i64 s.2.1) ∧ w.cell? ⟨b, off + i * 3 + 2, none⟩ = some (.int .i64 s.2.2) := by
  have hlt := (List.getElem?_eq_some_iff.1 hi).1
  obtain ⟨b, off, e, hb, hc⟩ := h.at_ (by omega)
  obtain ⟨h1, h2, h3⟩ := flatP_at l i s hi
  exact ⟨b, off, e, hb, hc _ _ h1, by rw [Nat.add_assoc]; exact hc _ _ h2, by rw [Nat.add_assoc]; exact hc _ _ h3⟩

theorem info_pitch : (Tryd.prog.info? 25).map (fun i => (i.zero, i.size, i.bytes)) = some (some (.agg #[.int .i64 0, .int .i64 0, .int .i64 0]), 3, 24) := by kernel_rfl
end Go.Proofs.YteomimeagloofaaDoor
