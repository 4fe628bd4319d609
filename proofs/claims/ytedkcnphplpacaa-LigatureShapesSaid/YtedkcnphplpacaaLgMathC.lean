/- The reference's least shape is the program's. -/
import Derived.Test.YtedkcnphplpacaaLgRefJ
namespace Go.Proofs.Ytedkcnphplpacaa
open Go.RowKit

/-- The rank of x is smaller. -/
def rkL (x y : List Sg) (n : Nat) : Prop := obN x n < obN y n ∨ (obN x n = obN y n ∧ (rtN x n < rtN y n ∨ (rtN x n = rtN y n ∧ (x.getD 0 zS).stem < (y.getD 0 zS).stem)))
theorem cmp_lt {x y : List Sg} {n : Nat} (hx : x.length = n) (hy : y.length = n) : cmpL (rkG x) (rkG y) < 0 ↔ rkL x y n := by
  unfold rkG rkL
  rw [hx, hy]
  unfold cmpL cmpL cmpL cmpL cmpI
  repeat' split
  all_goals omega
theorem bef_iff {x y : List Sg} {n : Nat} : befG x y n = true ↔ rkL x y n ∨ (¬ rkL y x n ∧ lexF x y n 0 = true) := by
  unfold befG rkL
  by_cases h : obN x n = obN y n ∧ rtN x n = rtN y n
  · rw [if_pos h]
    by_cases k : (x.getD 0 zS).stem = (y.getD 0 zS).stem
    · rw [if_pos k]
      constructor
      · intro e; exact .inr ⟨by omega, e⟩
      · rintro (e | e)
        · omega
        · exact e.2
    · rw [if_neg k, decide_eq_true_iff]
      constructor
      · intro e; exact .inl (by omega)
      · rintro (e | e)
        · omega
        · have := e.1; omega
  · rw [if_neg h, decide_eq_true_iff]
    constructor
    · intro e; exact .inl (by omega)
    · rintro (e | e)
      · omega
      · have := e.1; omega
theorem lex_irr (x : List Sg) : ∀ f i, lexF x x f i = false
  | 0, _ => rfl
  | f + 1, i => by
    unfold lexF
    rw [if_pos rfl, if_pos rfl]; exact lex_irr x f (i + 1)
theorem lex_asym (x y : List Sg) : ∀ f i, lexF x y f i = true → lexF y x f i = false
  | 0, _, _ => rfl
  | f + 1, i, h => by
    unfold lexF at h ⊢
    by_cases e : (x.getD i zS).obl = (y.getD i zS).obl
    · rw [if_pos e] at h
      rw [if_pos e.symm]
      by_cases k : (x.getD i zS).stem = (y.getD i zS).stem
      · rw [if_pos k] at h
        rw [if_pos k.symm]
        exact lex_asym x y f (i + 1) h
      · rw [if_neg k, decide_eq_true_iff] at h
        rw [if_neg (fun e => k e.symm), decide_eq_false_iff_not]
        omega
    · rw [if_neg e] at h
      rw [if_neg (fun k => e k.symm)]
      cases hx : (x.getD i zS).obl with
      | false => rfl
      | true => rw [hx, h] at e; exact absurd rfl e
theorem bef_asym {x y : List Sg} {n : Nat} (h : befG x y n = true) : befG y x n = false := by
  cases k : befG y x n with
  | false => rfl
  | true =>
    rcases bef_iff.1 h with a | a <;> rcases bef_iff.1 k with b | b
    · unfold rkL at a b; omega
    · exact absurd a b.1
    · exact absurd b a.1
    · have := lex_asym x y n 0 a.2; rw [b.2] at this; cases this
theorem bef_irr (x : List Sg) (n : Nat) : befG x x n = false := by
  cases k : befG x x n with
  | false => rfl
  | true => have := bef_asym k; rw [k] at this; cases this

/-- In a list in the iterator's order the first one of least rank comes before all others. -/
theorem fold_least {n : Nat} : ∀ (ys pre : List (List Sg)) (b : List Sg), (∀ y ∈ pre ++ ys, y.length = n) → List.Pairwise (fun x y => lexF x y n 0 = true) (pre ++ ys) → b ∈ pre → (∀ y ∈ pre, y = b ∨ befG b y n = true) →
    ∃ m, ys.foldl stepB (some b) = some m ∧ m ∈ pre ++ ys ∧ ∀ y ∈ pre ++ ys, y = m ∨ befG m y n = true
  | [], pre, b, _, _, hb, hm => ⟨b, rfl, by simpa using hb, by simpa using hm⟩
  | x :: t, pre, b, hl, hp, hb, hm => by
    have hx : x.length = n := hl x (by simp)
    have hbl : b.length = n := hl b (by simp [hb])
    have hbx : lexF b x n 0 = true := (List.pairwise_append.1 hp).2.2 b hb x (by simp)
    have e : pre ++ x :: t = (pre ++ [x]) ++ t := by simp
    rw [e] at hl hp ⊢
    show ∃ m, t.foldl stepB (stepB (some b) x) = some m ∧ _
    by_cases k : cmpL (rkG x) (rkG b) < 0
    · rw [show stepB (some b) x = some x from if_pos k]
      refine fold_least t (pre ++ [x]) x hl hp (by simp) (fun y hy => ?_)
      have kr := (cmp_lt hx hbl).1 k
      rcases List.mem_append.1 hy with hy | hy
      · right
        rcases hm y hy with rfl | h
        · exact bef_iff.2 (.inl kr)
        · refine bef_iff.2 (.inl ?_)
          rcases bef_iff.1 h with a | a
          · unfold rkL at *; omega
          · have := a.1; unfold rkL at *; omega
      · left; simpa using hy
    · rw [show stepB (some b) x = some b from if_neg k]
      refine fold_least t (pre ++ [x]) b hl hp (by simp [hb]) (fun y hy => ?_)
      rcases List.mem_append.1 hy with hy | hy
      · exact hm y hy
      · right
        have : y = x := by simpa using hy
        subst this
        exact bef_iff.2 (.inr ⟨fun h => k ((cmp_lt hx hbl).2 h), hbx⟩)
/-- The fold by 'before' finds it in any order. -/
theorem fold_ref {n : Nat} {m : List Sg} : ∀ (xs : List (List Sg)) (o : Option (List Sg)), (∀ y ∈ xs, y = m ∨ befG m y n = true) → (∀ b, o = some b → b = m ∨ befG m b n = true) → (o = some m ∨ m ∈ xs) → xs.foldl (stepR n) o = some m
  | [], o, _, _, h => by
    rcases h with h | h
    · exact h
    · simp at h
  | x :: t, o, hx, ho, h => by
    have hxm := hx x (by simp)
    show t.foldl (stepR n) (stepR n o x) = some m
    have key : (stepR n o x = some m ∨ m ∈ t) ∧ ∀ b, stepR n o x = some b → b = m ∨ befG m b n = true := by
      cases o with
      | none =>
        refine ⟨?_, fun b hb => ?_⟩
        · rcases h with h | h
          · cases h
          · rcases List.mem_cons.1 h with rfl | h
            · exact .inl rfl
            · exact .inr h
        · have : x = b := Option.some.inj hb
          rw [← this]; exact hxm
      | some b =>
        have hbm := ho b rfl
        by_cases k : befG x b n = true
        · rw [show stepR n (some b) x = some x from if_pos k]
          refine ⟨?_, fun c hc => by rw [← Option.some.inj hc]; exact hxm⟩
          rcases h with h | h
          · have hb : b = m := Option.some.inj h
            rw [hb] at k
            rcases hxm with e | e
            · exact .inl (by rw [e])
            · rw [bef_asym e] at k; cases k
          · rcases List.mem_cons.1 h with rfl | h
            · exact .inl rfl
            · exact .inr h
        · rw [show stepR n (some b) x = some b from if_neg k]
          refine ⟨?_, fun c hc => by rw [← Option.some.inj hc]; exact hbm⟩
          rcases h with h | h
          · exact .inl h
          · rcases List.mem_cons.1 h with h | h
            · rcases hbm with e | e
              · exact .inl (by rw [e])
              · rw [h] at e; exact absurd e k
            · exact .inr h
    exact fold_ref t _ (fun y hy => hx y (by simp [hy])) key.2 key.1

/-! ### The iterator's order -/
theorem lex_step {x y : List Sg} : ∀ (d f i : Nat), (∀ j, i ≤ j → j < i + d → x.getD j zS = y.getD j zS) → lexF x y (f + d) i = lexF x y f (i + d)
  | 0, f, i, _ => rfl
  | d + 1, f, i, h => by
    have h0 := h i (by omega) (by omega)
    show lexF x y ((f + d) + 1) i = _
    unfold lexF
    rw [if_pos (by rw [h0]), if_pos (by rw [h0]), lex_step d f (i + 1) (fun j a b => h j (by omega) (by omega))]
    rw [show i + 1 + d = i + (d + 1) by omega]
    cases f <;> rfl

end Go.Proofs.Ytedkcnphplpacaa
