/- DotNumbered, mathematics: combinations ascend, are combinations, and each is found once. -/
import Derived.Test.YthokapebcplmkaaDOf
import Derived.Test.YthokapebcplmkaaDTwo
namespace Go.Proofs.Ythokapebcplmkaa
open Go.RowKit

/-- Before in lexicographic order. -/
def lsI : List Int → List Int → Bool
  | x :: a, y :: b => if x = y then lsI a b else decide (x < y)
  | _, _ => false
def ascL (L : List (List Int)) : Prop := ∀ z ∈ L, ∀ x y, z = [x, y] → x < y
def oneL (L : List (List Int)) : Prop := ∀ z ∈ L, 1 ≤ z.length ∧ z.length ≤ 2
theorem ofR_asc : ∀ (L : List (List Int)), oneL L → ascL L → ∀ n, ¬ (n + 1) % prodL L = 0 → lsI (ofR L n) (ofR L (n + 1)) = true
  | [], _, _, n, h => absurd (Nat.mod_one _) h
  | x :: t, ho, ha, n, h => by
    have hp : 1 ≤ prodL t := prodL_pos (fun y hy => ho y (List.mem_cons_of_mem _ hy))
    have hx := ho x (List.mem_cons_self ..)
    show (if x.getD (n / prodL t % x.length) 0 = x.getD ((n + 1) / prodL t % x.length) 0 then lsI (ofR t n) (ofR t (n + 1)) else decide (x.getD (n / prodL t % x.length) 0 < x.getD ((n + 1) / prodL t % x.length) 0)) = true
    by_cases hm : (n + 1) % prodL t = 0
    · have hd := div_next hp (Nat.dvd_of_mod_eq_zero hm)
      have h2 : ¬ (n / prodL t + 1) % x.length = 0 := fun e => h (by
        show (n + 1) % (x.length * prodL t) = 0
        rw [Nat.mul_comm, Nat.mod_mul, hm, hd, e, Nat.mul_zero])
      rw [hd]
      generalize n / prodL t = c at *
      obtain h1 | h1 : x.length = 1 ∨ x.length = 2 := by omega
      · rw [h1] at h2; omega
      · obtain ⟨u, v, rfl⟩ := len_two h1
        have huv := ha _ (List.mem_cons_self ..) u v rfl
        have e0 : c % [u, v].length = 0 := by rw [h1] at h2 ⊢; omega
        have e1 : (c + 1) % [u, v].length = 1 := by rw [h1] at h2 ⊢; omega
        rw [e0, e1]
        show (if u = v then _ else decide (u < v)) = true
        rw [if_neg (by omega)]
        exact decide_eq_true huv
    · have hd : (n + 1) / prodL t = n / prodL t := by
        rw [Nat.succ_div, if_neg (fun e => hm (Nat.mod_eq_zero_of_dvd e)), Nat.add_zero]
      rw [hd, if_pos rfl]
      exact ofR_asc t (fun y hy => ho y (List.mem_cons_of_mem _ hy)) (fun y hy => ha y (List.mem_cons_of_mem _ hy)) n hm
theorem ofR_ok {L : List (List Int)} (ho : oneL L) (n : Nat) : okC L (ofR L n) := by
  refine ⟨ofR_len L n, fun i hi => ?_⟩
  have h1 := ofR_get L n i hi
  have h2 := rd_pos ho hi
  have h3 := Nat.mod_lt (n / tl L (i + 1)) h2.1
  unfold rd at h3
  rw [List.getD_eq_getElem?_getD (l := ofR L n), h1, Option.getD_some]
  unfold rd
  generalize n / tl L (i + 1) % (L.getD i []).length = d at *
  rw [List.getD_eq_getElem?_getD (l := L.getD i []), List.getElem?_eq_getElem h3]
  exact List.getElem_mem h3
theorem at_inj {x : List Int} (h1 : 1 ≤ x.length ∧ x.length ≤ 2) (ha : ∀ u v, x = [u, v] → u < v) {i j : Nat} (hi : i < x.length) (hj : j < x.length) (e : x.getD i 0 = x.getD j 0) : i = j := by
  obtain h2 | h2 : x.length = 1 ∨ x.length = 2 := by omega
  · omega
  · obtain ⟨u, v, rfl⟩ := len_two h2
    have huv := ha u v rfl
    rw [h2] at hi hj
    obtain rfl | rfl : i = 0 ∨ i = 1 := by omega
    · obtain rfl | rfl : j = 0 ∨ j = 1 := by omega
      · rfl
      · have e : u = v := e
        omega
    · obtain rfl | rfl : j = 0 ∨ j = 1 := by omega
      · have e : v = u := e
        omega
      · rfl
theorem ofR_inj : ∀ (L : List (List Int)), oneL L → ascL L → ∀ n m, ofR L n = ofR L m → n % prodL L = m % prodL L
  | [], _, _, n, m, _ => by show n % 1 = m % 1; omega
  | x :: t, ho, ha, n, m, h => by
    have hx := ho x (List.mem_cons_self ..)
    have h : x.getD (n / prodL t % x.length) 0 :: ofR t n = x.getD (m / prodL t % x.length) 0 :: ofR t m := h
    injection h with h1 h2
    have i1 := ofR_inj t (fun y hy => ho y (List.mem_cons_of_mem _ hy)) (fun y hy => ha y (List.mem_cons_of_mem _ hy)) n m h2
    have i2 := at_inj hx (ha x (List.mem_cons_self ..)) (Nat.mod_lt _ hx.1) (Nat.mod_lt _ hx.1) h1
    show n % (x.length * prodL t) = m % (x.length * prodL t)
    rw [Nat.mul_comm, Nat.mod_mul, Nat.mod_mul, i1, i2]
def okR : List (List Int) → List Int → Prop
  | [], [] => True
  | x :: t, y :: r => y ∈ x ∧ okR t r
  | _, _ => False
theorem okR_of : ∀ (L : List (List Int)) (R : List Int), okC L R → okR L R
  | [], [], _ => trivial
  | x :: t, y :: r, h => by
    have hl : r.length + 1 = t.length + 1 := h.1
    refine ⟨h.2 0 (by simp), okR_of t r ⟨by omega, fun i hi => h.2 (i + 1) (by simp; omega)⟩⟩
  | [], y :: r, h => by have := h.1; simp at this
  | x :: t, [], h => by have := h.1; simp at this
theorem ofR_sur : ∀ (L : List (List Int)) (R : List Int), oneL L → okR L R → ∃ n, n < prodL L ∧ ∀ m, m % prodL L = n → ofR L m = R
  | [], [], _, _ => ⟨0, by decide, fun _ _ => rfl⟩
  | x :: t, y :: r, ho, h => by
    have hp : 1 ≤ prodL t := prodL_pos (fun y hy => ho y (List.mem_cons_of_mem _ hy))
    obtain ⟨n, hn, hm⟩ := ofR_sur t r (fun y hy => ho y (List.mem_cons_of_mem _ hy)) h.2
    obtain ⟨d, hd, e⟩ := List.getElem_of_mem h.1
    have hlt : n + prodL t * d < x.length * prodL t := by
      have : prodL t * (d + 1) ≤ prodL t * x.length := Nat.mul_le_mul_left _ hd
      rw [Nat.mul_comm x.length]
      rw [Nat.mul_add] at this
      omega
    refine ⟨n + prodL t * d, hlt, fun m hmm => ?_⟩
    have hmm : m % (x.length * prodL t) = n + prodL t * d := hmm
    rw [Nat.mul_comm, Nat.mod_mul] at hmm
    have hlt2 := Nat.mod_lt m hp
    have e1 : m % prodL t = n := by
      have := congrArg (· % prodL t) hmm
      simp only [Nat.add_mul_mod_self_left, Nat.mod_mod] at this
      rw [this, Nat.mod_eq_of_lt hn]
    have e2 : m / prodL t % x.length = d := by
      rw [e1] at hmm
      exact Nat.eq_of_mul_eq_mul_left hp (Nat.add_left_cancel hmm)
    show x.getD (m / prodL t % x.length) 0 :: ofR t m = y :: r
    rw [e2, hm m e1, List.getD_eq_getElem?_getD, List.getElem?_eq_getElem hd, e]
    rfl
/-- How often a list is found among the first combinations. -/
def fnd (L : List (List Int)) (R : List Int) : Nat → Nat
  | 0 => 0
  | k + 1 => fnd L R k + if ofR L k = R then 1 else 0
theorem fnd_le (L : List (List Int)) (R : List Int) : ∀ k, fnd L R k ≤ k
  | 0 => Nat.le_refl _
  | k + 1 => by
    have := fnd_le L R k
    show fnd L R k + _ ≤ _
    split <;> omega
theorem fnd_none {L : List (List Int)} {R : List Int} : ∀ k, (∀ i, i < k → ofR L i ≠ R) → fnd L R k = 0
  | 0, _ => rfl
  | k + 1, h => by
    show fnd L R k + _ = 0
    rw [if_neg (h k (by omega)), fnd_none k (fun i hi => h i (by omega))]
theorem fnd_one {L : List (List Int)} {R : List Int} {n : Nat} (hn : ofR L n = R) (hu : ∀ i, i < prodL L → i ≠ n → ofR L i ≠ R) : ∀ k, n < k → k ≤ prodL L → fnd L R k = 1
  | 0, h, _ => by omega
  | k + 1, h, hk => by
    show fnd L R k + _ = 1
    by_cases e : k = n
    · rw [e, if_pos hn, fnd_none n (fun i hi => hu i (by omega) (by omega))]
    · rw [if_neg (hu k (by omega) e), fnd_one hn hu k (by omega) (by omega)]
theorem fnd_all {L : List (List Int)} {R : List Int} (ho : oneL L) (ha : ascL L) (hr : okC L R) : fnd L R (prodL L) = 1 := by
  obtain ⟨n, hn, hm⟩ := ofR_sur L R ho (okR_of L R hr)
  have e := hm n (Nat.mod_eq_of_lt hn)
  refine fnd_one e (fun i hi hne h => hne ?_) _ hn (Nat.le_refl _)
  have := ofR_inj L ho ha i n (h.trans e.symm)
  rwa [Nat.mod_eq_of_lt hi, Nat.mod_eq_of_lt hn] at this

end Go.Proofs.Ythokapebcplmkaa
