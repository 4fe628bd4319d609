/- Ligatures by definition: which notes are valid, and which values they have. -/
import Derived.Test.YthokapebcplmkaaLgMem
namespace Go.Proofs.Ythokapebcplmkaa

abbrev zS : Sg := ⟨0, 0, 0, 0, false, 0, false, false, 0, 0, 0, 0, false, 0, 0, 0, 0⟩
def badRange (s : Sg) : Prop := (s.place < -4 ∨ 12 < s.place) ∨ (s.acc < -1 ∨ 2 < s.acc) ∨ (s.stem < 0 ∨ 3 < s.stem)
instance (s : Sg) : Decidable (badRange s) := by unfold badRange; infer_instance
def lastB (l : List Sg) (i : Nat) : Bool := decide (i + 1 = l.length)
/-- The five tests of the form of note i. -/
def formA (l : List Sg) (i : Nat) (s : Sg) : Bool := (s.last != lastB l i) || !(sgE s (bareS s))
def formB (i : Nat) (s : Sg) : Bool := decide (0 < i) && (s.stem == 1 || s.stem == 2)
def formC (l : List Sg) (i : Nat) (s : Sg) : Bool := s.obl && (lastB l i || (decide (s.place ≤ (l.getD (i + 1) zS).place) || (l.getD (i + 1) zS).obl))
def formD (l : List Sg) (i : Nat) (s : Sg) : Bool := decide (0 < i) && (s.place == (l.getD (i - 1) zS).place)
def formE (l : List Sg) (i : Nat) (s : Sg) : Bool := (decide (i = 1) && s.stem == 3) && (l.getD 0 zS).stem == 1
def noteE (l : List Sg) (i : Nat) (s : Sg) : Int :=
  if s.kind ≠ 4 then 8 else if badRange s then 2 else if formA l i s = true then 3 else if formB i s = true then 3 else if formC l i s = true then 3 else if formD l i s = true then 3 else if formE l i s = true then 3 else 0
def errG (l : List Sg) (i : Nat) : Int := noteE l i (l.getD i zS)
/-- The value of note i. -/
def valG (l : List Sg) (i : Nat) : Int :=
  if (l.getD i zS).stem = 3 then 2 else if i < 2 ∧ (l.getD 0 zS).stem = 1 then 4
  else if i = 0 then (if decide ((l.getD 1 zS).place < (l.getD 0 zS).place) != decide ((l.getD 0 zS).stem = 2) then 2 else 3)
  else if i + 1 = l.length ∧ (l.getD (i - 1) zS).obl = false ∧ (l.getD i zS).place < (l.getD (i - 1) zS).place then 2 else 3
theorem sg_some {l : List Sg} {i : Nat} (h : i < l.length) : l[i]? = some (l.getD i zS) := by simp [List.getElem?_eq_getElem h]

end Go.Proofs.Ythokapebcplmkaa
