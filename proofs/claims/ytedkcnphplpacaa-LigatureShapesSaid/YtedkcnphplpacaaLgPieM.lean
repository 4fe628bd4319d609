/- The pieces of the best division: they can be ligated, and no two successive ones can be joined. -/
import Derived.Test.YtedkcnphplpacaaLgProgO
import Derived.Test.YtedkcnphplpacaaLgMathB
namespace Go.Proofs.Ytedkcnphplpacaa
open Go.RowKit

theorem segI_getD (l : List Int) {i t j : Nat} (h : j < t - i) : (segI l i t).getD j 0 = l.getD (i + j) 0 := by
  unfold segI
  simp only [List.getD]
  rw [List.getElem?_take, if_pos h, List.getElem?_drop]
/-- Whether the reference finds a shape of a piece. -/
def CGP (ps vs : List Int) (i t : Nat) : Bool := decide (0 < cntG (segI ps i t) (segI vs i t))
theorem ask_inv {ps vs : List Int} (h : askE ps vs = 0) : (2 ≤ ps.length ∧ ps.length ≤ 12) ∧ vs.length = ps.length ∧ ∀ j, j < ps.length → okPV (ps.getD j 0) (vs.getD j 0) := by
  by_cases k : 2 ≤ ps.length ∧ ps.length ≤ 12
  · by_cases k2 : vs.length = ps.length
    · refine ⟨k, k2, fun j hj => ?_⟩
      by_cases hb : okPV (ps.getD j 0) (vs.getD j 0)
      · exact hb
      · rw [ask_bad k k2 hj hb] at h; cases h
    · rw [ask_form k k2] at h; cases h
  · rw [ask_full k] at h; cases h
theorem seg_ask {ps vs : List Int} (h : askE ps vs = 0) {i t : Nat} (h1 : i + 2 ≤ t) (h2 : t ≤ ps.length) : askE (segI ps i t) (segI vs i t) = 0 := by
  obtain ⟨a, b, c⟩ := ask_inv h
  have e1 := segI_len ps (i := i) h2
  have e2 := segI_len vs (i := i) (show t ≤ vs.length by omega)
  refine ask_ok (by omega) (by omega) (fun j hj => ?_)
  rw [segI_getD _ (by omega), segI_getD _ (by omega)]
  exact c (i + j) (by omega)
theorem cg_eq {ps vs : List Int} (h : askE ps vs = 0) {i t : Nat} (h1 : i + 2 ≤ t) (h2 : t ≤ ps.length) : CGP ps vs i t = CNP ps vs i t := by
  have hs := seg_ask h h1 h2
  obtain ⟨_, _, c⟩ := ask_inv hs
  have hp := (all_perm (ps := segI ps i t) (vs := segI vs i t) (fun j hj => (c j hj).1)).length_eq
  unfold CGP CNP
  rw [show cntG (segI ps i t) (segI vs i t) = ((allG (segI ps i t) (segI vs i t)).length : Int) from if_pos hs, hp, segI_len ps h2]
  by_cases k : 0 < (pAll (segI ps i t) (segI vs i t) (t - i) []).length
  · rw [decide_eq_true k, decide_eq_true (by omega)]
  · rw [decide_eq_false k, decide_eq_false (by omega)]

/-- What stands before piece i, which begins at a; the one before it begins at b. -/
structure PcI (C : Nat → Nat → Bool) (n : Nat) (L : List Int) (i a b : Nat) : Prop where
  le : a ≤ n
  rest : ∃ f, n - a ≤ f ∧ L.drop i = lenD (divD C n) n f a
  ix : i ≤ L.length
  lt : b ≤ a
  two : 0 < i → b < a ∧ (divD C n b).2 = (divD C n a).2 + 1
theorem PcI.start (C : Nat → Nat → Bool) (n : Nat) : PcI C n (lenD (divD C n) n n 0) 0 0 0 := ⟨by omega, ⟨n, by omega, rfl⟩, by omega, by omega, fun h => by omega⟩
theorem PcI.end_ {C : Nat → Nat → Bool} {n : Nat} {L : List Int} {a b : Nat} (h : PcI C n L L.length a b) : a = n := by
  obtain ⟨f, hf, e⟩ := h.rest
  have hl := h.le
  rw [List.drop_length] at e
  by_cases k : a < n
  · cases f with
    | zero => omega
    | succ f =>
      have : lenD (divD C n) n (f + 1) a = (divD C n a).1 :: lenD (divD C n) n f (a + (divD C n a).1.toNat) := if_pos k
      rw [this] at e; cases e
  · omega
theorem PcI.step {C : Nat → Nat → Bool} {n : Nat} {L : List Int} {i a b : Nat} (h : PcI C n L i a b) (hi : i < L.length) :
    ∃ s : Nat, L.getD i 0 = (s : Int) ∧ 1 ≤ s ∧ a + s ≤ n ∧ (1 < s → C a (a + s) = true) ∧ (0 < i → b + 2 ≤ a + s ∧ C b (a + s) = false) ∧ PcI C n L (i + 1) (a + s) a := by
  obtain ⟨f, hf, e⟩ := h.rest
  have hl := h.le
  have hd : L.drop i = L[i] :: L.drop (i + 1) := List.drop_eq_getElem_cons hi
  rw [hd] at e
  by_cases k : a < n
  · cases f with
    | zero => omega
    | succ f =>
      have e2 : lenD (divD C n) n (f + 1) a = (divD C n a).1 :: lenD (divD C n) n f (a + (divD C n a).1.toNat) := if_pos k
      rw [e2] at e
      injection e with e3 e4
      obtain ⟨t, t1, t2, t3, t4⟩ := div_made C n a k
      have t5 : (divD C n a).1 = (t : Int) - a := by rw [t3]
      have t6 : (divD C n a).2 = (divD C n t).2 + 1 := by rw [t3]
      have hs : a + (t - a) = t := by omega
      refine ⟨t - a, ?_, by omega, by omega, fun h1 => ?_, fun h1 => ⟨?_, ?_⟩, ?_⟩
      · rw [show L.getD i 0 = L[i] by simp [List.getD, List.getElem?_eq_getElem hi], e3, t5]; omega
      · rw [hs]; exact t4 (by omega)
      · have := h.two h1; omega
      · rw [hs]
        cases hc : C b t with
        | false => rfl
        | true =>
          have g := h.two h1
          have := div_least C n b t (by omega) t2 hc
          omega
      · rw [hs]
        refine ⟨t2, ⟨f, by omega, ?_⟩, by omega, by omega, fun _ => ⟨t1, t6⟩⟩
        rw [e4, t5, show a + ((t : Int) - a).toNat = t by omega]
  · rw [lenD_end _ _ (by omega)] at e; cases e

end Go.Proofs.Ytedkcnphplpacaa
