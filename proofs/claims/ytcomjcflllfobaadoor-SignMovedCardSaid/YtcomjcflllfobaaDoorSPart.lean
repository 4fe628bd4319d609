/- Parts by definition: which are valid, and where else the first error is. -/
import Derived.Test.YtcomjcflllfobaaDoorSSpec
import Derived.Test.YtcomjcflllfobaaDoorWSingle
namespace Go.Proofs.YtcomjcflllfobaaDoor
open Go.RowKit

/-- Sign i is a sign of a ligature. -/
def kB (l : List Sg) (i : Nat) : Bool := (l.getD i zS).kind == 4
def laB (l : List Sg) (i : Nat) : Bool := (l.getD i zS).last
/-- Sign i is the first one of a ligature. -/
def fstB (l : List Sg) (i : Nat) : Bool := kB l i && (decide (i = 0) || (!(kB l (i - 1)) || laB l (i - 1)))
/-- Sign i has the neighbour that it needs. -/
def jnB (l : List Sg) (i : Nat) : Bool := if kB l i = false then true else if laB l i = true then !(fstB l i) else (decide (i + 1 < l.length) && kB l (i + 1))
def sgnE (l : List Sg) (i : Nat) : Int := if oneE (l.getD i zS) ≠ 0 then oneE (l.getD i zS) else if jnB l i = true then 0 else 3
def scan (f : Nat → Int) : Nat → Nat → Int × Nat
  | _, 0 => (0, 0)
  | i, n + 1 => if f i ≠ 0 then (f i, i) else scan f (i + 1) n
theorem scan_hit {f : Nat → Int} {j : Nat} (hj : f j ≠ 0) : ∀ (n i : Nat), i ≤ j → j < i + n → (∀ k, i ≤ k → k < j → f k = 0) → scan f i n = (f j, j)
  | 0, i, h1, h2, _ => by omega
  | n + 1, i, h1, h2, h3 => by
    by_cases e : i = j
    · subst e; exact if_pos hj
    · have := scan_hit hj n (i + 1) (by omega) (by omega) (fun k a b => h3 k (by omega) b)
      show (if f i ≠ 0 then _ else _) = _
      rw [if_neg (by rw [h3 i (Nat.le_refl _) (by omega)]; decide), this]
theorem scan_none {f : Nat → Int} : ∀ (n i : Nat), (∀ k, i ≤ k → k < i + n → f k = 0) → scan f i n = (0, 0)
  | 0, _, _ => rfl
  | n + 1, i, h => by
    show (if f i ≠ 0 then _ else _) = _
    rw [if_neg (by rw [h i (Nat.le_refl _) (by omega)]; decide), scan_none n (i + 1) (fun k a b => h k (by omega) (by omega))]
/-- The error of a part, and its number; b: its name is a name. -/
def chkV (b : Bool) (l : List Sg) : Int × Nat := if b = false then (7, 0) else if 400 < l.length then (11, 0) else scan (sgnE l) 0 l.length
theorem chk_name (l : List Sg) : chkV false l = (7, 0) := rfl
theorem chk_full {l : List Sg} (h : 400 < l.length) : chkV true l = (11, 0) := by unfold chkV; rw [if_neg (by decide), if_pos h]
theorem chk_hit {l : List Sg} (h : ¬ 400 < l.length) {j : Nat} (hj : j < l.length) (he : sgnE l j ≠ 0) (hb : ∀ k, k < j → sgnE l k = 0) : chkV true l = (sgnE l j, j) := by
  unfold chkV; rw [if_neg (by decide), if_neg h]; exact scan_hit he _ 0 (Nat.zero_le _) (by omega) (fun k _ hk => hb k hk)
theorem chk_ok {l : List Sg} (h : ¬ 400 < l.length) (hb : ∀ k, k < l.length → sgnE l k = 0) : chkV true l = (0, 0) := by
  unfold chkV; rw [if_neg (by decide), if_neg h]; exact scan_none _ 0 (fun k _ hk => hb k (by omega))
theorem sgn_one {l : List Sg} {i : Nat} (h : oneE (l.getD i zS) ≠ 0) : sgnE l i = oneE (l.getD i zS) := if_pos h
theorem sgn_ok {l : List Sg} {i : Nat} (h : oneE (l.getD i zS) = 0) (k : jnB l i = true) : sgnE l i = 0 := by unfold sgnE; rw [if_neg (by rw [h]; decide), if_pos k]
theorem sgn_no {l : List Sg} {i : Nat} (h : oneE (l.getD i zS) = 0) (k : jnB l i = false) : sgnE l i = 3 := by unfold sgnE; rw [if_neg (by rw [h]; decide), if_neg (by rw [k]; decide)]
theorem jn_free {l : List Sg} {i : Nat} (h : kB l i = false) : jnB l i = true := if_pos h
theorem jn_last {l : List Sg} {i : Nat} (h : kB l i = true) (k : laB l i = true) : jnB l i = !(fstB l i) := by unfold jnB; rw [if_neg (by rw [h]; decide), if_pos k]
theorem jn_mid {l : List Sg} {i : Nat} (h : kB l i = true) (k : laB l i = false) : jnB l i = (decide (i + 1 < l.length) && kB l (i + 1)) := by unfold jnB; rw [if_neg (by rw [h]; decide), if_neg (by rw [k]; decide)]
theorem fst_zero {l : List Sg} : fstB l 0 = kB l 0 := by unfold fstB; simp
theorem fst_succ {l : List Sg} {j : Nat} : fstB l (j + 1) = (kB l (j + 1) && (!(kB l j) || laB l j)) := by unfold fstB; simp
/-- A part, as a value. -/
abbrev ptv (nm : ByteArray) (p : Option Addr) (n cap : Nat) : Value := .agg #[.string nm, .slice p n cap]
abbrev ptO (nm : ByteArray) (p : Option Addr) (n cap : Nat) : Obj := .cells #[.string nm, .slice p n cap] 40
theorem pt_new (w : World) (nm : ByteArray) (p : Option Addr) (n cap : Nat) : HoldsB (w.alloc (ptO nm p n cap)) w.heap.size 40 #[.string nm, .slice p n cap] := HoldsB.new w _ _

end Go.Proofs.YtcomjcflllfobaaDoor
