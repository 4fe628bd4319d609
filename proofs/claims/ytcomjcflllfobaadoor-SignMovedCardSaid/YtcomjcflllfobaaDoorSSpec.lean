/- Signs by definition: which fields a kind uses, which signs are valid, classes of kinds. -/
import Derived.Test.YtcomjcflllfobaaDoorSClef
import Derived.Test.YtcomjcflllfobaaDoorLgSpec
namespace Go.Proofs.YtcomjcflllfobaaDoor

def inB (n lo hi : Int) : Bool := decide (lo ≤ n ∧ n ≤ hi)
theorem inB_iff {n lo hi : Int} : inB n lo hi = true ↔ lo ≤ n ∧ n ≤ hi := by unfold inB; exact decide_eq_true_iff
def kp (b : Bool) (x : Int) : Int := if b then x else 0
def kpB (b x : Bool) : Bool := b && x
/-- What is kept of a sign. -/
def keepS (f : Fd) (s : Sg) : Sg := ⟨s.kind, kp f.fv s.val, kp f.fp s.place, kp f.fa s.acc, kpB f.fc s.col, kp f.fs s.stem, kpB f.fo s.obl, kpB f.fl s.last, kp f.fm s.m0, kp f.fm s.m1, kp f.fm s.m2, kp f.fm s.m3, kpB f.fk s.stk, kp f.fn s.n, kp f.fd s.d, kp f.fC s.c0, kp f.fC s.c1⟩
/-- Only what the kind uses. -/
def useS (s : Sg) : Sg := keepS (fdK s.kind.toNat) s
def kOk (k : Int) : Prop := 1 ≤ k ∧ k ≤ 12
instance (k : Int) : Decidable (kOk k) := by unfold kOk; infer_instance
/-- The class of a kind, and the error. -/
def clsV (k : Int) : Int × Int := if k = 1 ∨ k = 2 ∨ k = 4 then (1, 0) else if k = 3 then (2, 0) else if k = 5 ∨ k = 6 ∨ k = 9 ∨ k = 10 then (3, 0) else if k = 7 ∨ k = 8 ∨ k = 11 ∨ k = 12 then (4, 0) else (0, 8)
theorem kcls_ok {k : Int} (h : kOk k) : (clsV k).2 = 0 := by
  obtain ⟨h1, h2⟩ := h
  have c : k = 1 ∨ k = 2 ∨ k = 3 ∨ k = 4 ∨ k = 5 ∨ k = 6 ∨ k = 7 ∨ k = 8 ∨ k = 9 ∨ k = 10 ∨ k = 11 ∨ k = 12 := by omega
  rcases c with rfl | rfl | rfl | rfl | rfl | rfl | rfl | rfl | rfl | rfl | rfl | rfl <;> rfl
theorem kcls_no {k : Int} (h : ¬ kOk k) : clsV k = (0, 8) := by
  unfold kOk at h
  unfold clsV
  rw [if_neg (by omega), if_neg (by omega), if_neg (by omega), if_neg (by omega)]
def plcB (s : Sg) : Bool := inB s.place (-4) 12 && inB s.acc (-1) 2
/-- The fields are in their ranges. -/
def rngB (s : Sg) : Bool :=
  if s.kind = 1 then inB s.val 1 8 && plcB s else if s.kind = 2 then inB s.val 1 8 else if s.kind = 4 then plcB s && inB s.stem 0 3
  else if s.kind = 6 then inB s.n 1 100 && inB s.d 1 100 else if s.kind = 7 then chkC (s.c0, s.c1) == 0 else if s.kind = 8 then inB s.n 0 2 else if s.kind = 10 then inB s.n 2 4 else true
abbrev mq (s : Sg) : Q4 := (s.m0, s.m1, s.m2, s.m3)
/-- The error of a sign by itself. -/
def oneE (s : Sg) : Int :=
  if ¬ kOk s.kind then 8 else if sgE s (useS s) = false then 3 else if s.kind = 5 ∧ ¬ okM (mq s) then 12 else if rngB s = false then 2 else if (s.obl && s.last) = true then 3 else 0
theorem fdK_mens (k : Nat) : (fdK k).fm = decide (k = 5) := by
  match k with
  | 0 => rfl
  | 1 => rfl
  | 2 => rfl
  | 3 => rfl
  | 4 => rfl
  | 5 => rfl
  | 6 => rfl
  | 7 => rfl
  | 8 => rfl
  | 9 => rfl
  | 10 => rfl
  | 11 => rfl
  | 12 => rfl
  | k + 13 => rfl

end Go.Proofs.YtcomjcflllfobaaDoor
