/- The reference's Shape is the program's. -/
import Derived.Test.YtedkcnphplpacaaLgMathC
namespace Go.Proofs.Ytedkcnphplpacaa
open Go.RowKit

def ltO (a b : Bool × Int) : Bool := ((a.1 == b.1) && decide (a.2 < b.2)) || (!a.1 && b.1)
theorem pAll_sorted (ps vs : List Int) : ∀ (k : Nat) (cs : List (Bool × Int)), cs.length + k = ps.length → List.Pairwise (fun x y => lexF x y ps.length 0 = true) (pAll ps vs k (bldP ps cs))
  | 0, cs, _ => by simp [pAll]
  | k + 1, cs, hk => by
    show List.Pairwise _ (optP.flatMap _)
    rw [List.pairwise_flatMap]
    constructor
    · intro o _
      rw [bldP_len, ← bldP_snoc]
      split
      · exact pAll_sorted ps vs k (cs ++ [o]) (by simp; omega)
      · exact List.Pairwise.nil
    · have hd : List.Pairwise (fun a b => ltO a b = true) optP := by decide
      refine List.Pairwise.imp (fun {o1 o2} hlt x hx y hy => ?_) hd
      rw [bldP_len, ← bldP_snoc] at hx hy
      have key : ∀ o z, z ∈ (if hopP vs (bldP ps (cs ++ [o])) = true then pAll ps vs k (bldP ps (cs ++ [o])) else []) → ∃ m : List (Bool × Int), m.length = k ∧ z = bldP ps (cs ++ [o] ++ m) := fun o z hz => by
        split at hz
        · obtain ⟨m, h1, _, hL, _⟩ := (mem_pAll ps vs k (cs ++ [o]) z).1 hz
          exact ⟨m, h1, hL⟩
        · simp at hz
      obtain ⟨m1, l1, e1⟩ := key o1 x hx
      obtain ⟨m2, l2, e2⟩ := key o2 y hy
      have hg : ∀ (o : Bool × Int) (m : List (Bool × Int)), m.length = k → (∀ j, j < cs.length → (bldP ps (cs ++ [o] ++ m)).getD j zS = nxS ps j (cs.getD j (false, 0))) ∧ (bldP ps (cs ++ [o] ++ m)).getD cs.length zS = nxS ps cs.length o := fun o m hm => by
        constructor
        · intro j hj
          rw [bldP_getD _ _ (by simp; omega)]
          congr 1
          simp only [List.getD]
          rw [List.append_assoc, List.getElem?_append_left hj]
        · rw [bldP_getD _ _ (by simp)]
          congr 1
          simp only [List.getD]
          rw [List.append_assoc, List.getElem?_append_right (Nat.le_refl _), Nat.sub_self]
          rfl
      obtain ⟨a1, a2⟩ := hg o1 m1 l1
      obtain ⟨b1, b2⟩ := hg o2 m2 l2
      rw [← e1] at a1 a2
      rw [← e2] at b1 b2
      rw [show ps.length = (k + 1) + cs.length by omega, lex_step cs.length (k + 1) 0 (fun j _ hj => by rw [a1 j (by omega), b1 j (by omega)])]
      rw [Nat.zero_add]
      unfold lexF
      rw [a2, b2]
      show (if o1.1 = o2.1 then (if o1.2 = o2.2 then _ else decide (o1.2 < o2.2)) else o2.1) = true
      unfold ltO at hlt
      rw [Bool.or_eq_true, Bool.and_eq_true, Bool.and_eq_true, beq_iff_eq, decide_eq_true_iff] at hlt
      rcases hlt with ⟨h1, h2⟩ | ⟨h1, h2⟩
      · rw [if_pos h1, if_neg (by omega)]
        exact decide_eq_true h2
      · rw [if_neg (by intro e; rw [e, h2] at h1; cases h1)]
        exact h2

theorem shape_eq {ps vs : List Int} (h : askE ps vs = 0) : rshR ps vs = shpR ps vs := by
  obtain ⟨_, _, hv⟩ := ask_inv h
  have hp : ∀ i, i < ps.length → -4 ≤ ps.getD i 0 ∧ ps.getD i 0 ≤ 12 := fun i hi => (hv i hi).1
  have perm := all_perm (vs := vs) hp
  have srt := pAll_sorted ps vs ps.length [] (by simp)
  have len : ∀ y ∈ pAll ps vs ps.length [], y.length = ps.length := fun y hy => (all_valid hp hy).1
  unfold rshR shpR bstR bstP
  rw [show bldP ps [] = [] from rfl] at srt
  generalize pAll ps vs ps.length [] = ys at *
  generalize allG ps vs = xs at *
  cases ys with
  | nil =>
    have : xs = [] := List.perm_nil.1 perm
    subst this; rfl
  | cons y0 t =>
    obtain ⟨m, e1, e2, e3⟩ := fold_least (n := ps.length) t [y0] y0 len srt (by simp) (fun y hy => .inl (by simpa using hy))
    show xs.foldl (stepR ps.length) none = t.foldl stepB (some y0)
    rw [e1]
    exact fold_ref xs none (fun y hy => e3 y (perm.mem_iff.1 hy)) (fun b hb => by cases hb) (.inr (perm.mem_iff.2 e2))

end Go.Proofs.Ytedkcnphplpacaa
