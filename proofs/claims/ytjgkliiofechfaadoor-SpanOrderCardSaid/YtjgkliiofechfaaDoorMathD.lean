/- Plain facts: the sum of small times is the sum of their 24ths: it does not depend on the order, and sums of pieces add up. -/
import Derived.Test.YtjgkliiofechfaaDoorMathC
import Derived.Test.YtjgkliiofechfaaDoorTot
namespace Go.Proofs.YtjgkliiofechfaaDoor

def SmallP (p : Int × Int) : Prop := Small p.1 p.2

/-- How many 24ths the times of a list are. -/
def tot24 : List (Int × Int) → Int
  | [] => 0
  | p :: t => p.1 * 24 / p.2 + tot24 t

theorem tot24_app : ∀ l m, tot24 (l ++ m) = tot24 l + tot24 m
  | [], m => by show tot24 m = 0 + tot24 m; omega
  | p :: t, m => by
    show _ + tot24 (t ++ m) = _ + tot24 t + tot24 m
    rw [tot24_app t m]; omega

theorem m24_of {n d : Int} (h : Small n d) : n * 24 = n * 24 / d * d ∧ 0 ≤ n * 24 / d ∧ n * 24 / d ≤ 576 := by
  obtain ⟨k, hk⟩ := h.dv
  have hd := h.d1
  have e : n * 24 / d = n * k := by
    rw [← hk, ← Int.mul_assoc, Int.mul_comm n d, Int.mul_assoc]
    exact Int.mul_ediv_cancel_left _ (by omega)
  have k1 : 1 ≤ k := by
    apply Classical.byContradiction; intro h2
    have := Int.mul_le_mul_of_nonneg_left (show k ≤ 0 by omega) (show 0 ≤ d by omega)
    omega
  have k2 : k ≤ 24 := by
    have := Int.mul_le_mul_of_nonneg_right hd (show 0 ≤ k by omega)
    omega
  have b1 := mul_bd (show 0 ≤ n by have := h.n1; omega) h.n2 (show 0 ≤ k by omega) k2
  rw [e]
  refine ⟨?_, by omega, by omega⟩
  rw [← hk]; simp only [Int.mul_comm, Int.mul_left_comm]

theorem tot24_bds : ∀ l : List (Int × Int), (∀ p ∈ l, SmallP p) → 0 ≤ tot24 l ∧ tot24 l ≤ 576 * (l.length : Int)
  | [], _ => by simp [tot24]
  | p :: t, h => by
    have h1 := m24_of (h p (by simp))
    have h2 := tot24_bds t (fun q hq => h q (by simp [hq]))
    show 0 ≤ p.1 * 24 / p.2 + tot24 t ∧ p.1 * 24 / p.2 + tot24 t ≤ _
    simp only [List.length_cons]
    omega

theorem chkL_small : ∀ l : List (Int × Int), (∀ p ∈ l, SmallP p) → chkL l = 0
  | [], _ => rfl
  | (a, b) :: t, h => by
    show (if chk a b = 0 then chkL t else chk a b) = 0
    rw [if_pos (chk_valid (small_valid (h (a, b) (by simp))))]
    exact chkL_small t (fun q hq => h q (by simp [hq]))

theorem step24 {a b c d M m : Int} (h : a * 24 = M * b) (k : c * 24 = m * d) : (a * d + c * b) * 24 = (M + m) * (b * d) := by
  have e1 : (a * d + c * b) * 24 = a * 24 * d + c * 24 * b := by
    rw [Int.add_mul]
    have u1 : a * d * 24 = a * 24 * d := by rw [Int.mul_assoc, Int.mul_comm d 24, ← Int.mul_assoc]
    have u2 : c * b * 24 = c * 24 * b := by rw [Int.mul_assoc, Int.mul_comm b 24, ← Int.mul_assoc]
    rw [u1, u2]
  rw [e1, h, k, Int.add_mul]
  have u1 : M * b * d = M * (b * d) := by simp only [Int.mul_comm, Int.mul_left_comm]
  have u2 : m * d * b = m * (b * d) := by simp only [Int.mul_comm, Int.mul_left_comm]
  rw [u1, u2]

theorem low24 {a b c d M m : Int} (va : Valid a b) (vc : Valid c d) (h : a * 24 = M * b) (k : c * 24 = m * d) (hM : 0 ≤ M) (hm : 0 ≤ m) : low (a * d + c * b) (b * d) = low (M + m) 24 := by
  have p1 := Int.mul_nonneg va.n0 (show 0 ≤ d by have := vc.d0; omega)
  have p2 := Int.mul_nonneg vc.n0 (show 0 ≤ b by have := va.d0; omega)
  exact low_eq _ _ _ _ (by omega) (mul_pos1 va.d0 vc.d0) (by omega) (by omega) (step24 h k)

theorem addL_small : ∀ (l : List (Int × Int)) (M a b : Int), (∀ p ∈ l, SmallP p) → Valid a b → a * 24 = M * b → 0 ≤ M → M + 576 * (l.length : Int) ≤ 30000 → addL a b l = low (M + tot24 l) 24
  | [], M, a, b, _, v, e, h0, _ => by
    show (a, b, (0 : Int)) = low (M + 0) 24
    rw [Int.add_zero, low_of M 24 a b h0 (by omega) v e.symm]
  | (c, d) :: t, M, a, b, h, v, e, h0, h1 => by
    have hs : Small c d := h (c, d) (by simp)
    obtain ⟨m1, m2, m3⟩ := m24_of hs
    simp only [List.length_cons] at h1
    have hl := low24 v (small_valid hs) e m1 h0 m2
    obtain ⟨n', d', l1, v1, x1, _, _⟩ := low_parts (M + c * 24 / d) 24 (by omega) (by omega) (by omega) (by omega)
    show (if (low (a * d + c * b) (b * d)).2.2 = 0 then addL (low (a * d + c * b) (b * d)).1 (low (a * d + c * b) (b * d)).2.1 t else _) = low (M + (c * 24 / d + tot24 t)) 24
    rw [hl, l1]
    show (if (0 : Int) = 0 then addL n' d' t else _) = _
    rw [if_pos rfl, addL_small t (M + c * 24 / d) n' d' (fun q hq => h q (by simp [hq])) v1 x1 (by omega) (by omega), Int.add_assoc]

theorem sumV_small (l : List (Int × Int)) (h : ∀ p ∈ l, SmallP p) (hl : l.length ≤ 50) : sumV l = low (tot24 l) 24 := by
  unfold sumV
  rw [if_pos (chkL_small l h), addL_small l 0 0 1 h ⟨by omega, by omega, by omega, by omega, gcdI_one_right 0⟩ (by omega) (by omega) (by omega), Int.zero_add]

/-- Four sums and one of two of them. -/
structure Orders (l : List (Int × Int)) (k : Nat) (a b c d e f : Int) : Prop where
  all : sumV l = (a, b, 0)
  turned : sumV (l.drop k ++ l.take k) = (a, b, 0)
  left : sumV (l.take k) = (c, d, 0)
  right : sumV (l.drop k) = (e, f, 0)
  both : addV c d e f = (a, b, 0)

theorem orders_of (l : List (Int × Int)) (k : Nat) (h : ∀ p ∈ l, SmallP p) (hl : l.length ≤ 50) : ∃ a b c d e f, Orders l k a b c d e f := by
  have ht : ∀ p ∈ l.take k, SmallP p := fun p hp => h p (List.mem_of_mem_take hp)
  have hd : ∀ p ∈ l.drop k, SmallP p := fun p hp => h p (List.mem_of_mem_drop hp)
  have lt : (l.take k).length ≤ 50 := by rw [List.length_take]; omega
  have ld : (l.drop k).length ≤ 50 := by rw [List.length_drop]; omega
  have s1 := sumV_small l h hl
  have s2 := sumV_small (l.take k) ht lt
  have s3 := sumV_small (l.drop k) hd ld
  have s4 := sumV_small (l.drop k ++ l.take k) (fun p hp => by rcases List.mem_append.1 hp with x | x; exact hd p x; exact ht p x) (by rw [List.length_append, List.length_take, List.length_drop]; omega)
  have t1 : tot24 l = tot24 (l.take k) + tot24 (l.drop k) := by rw [← tot24_app, List.take_append_drop]
  have t2 : tot24 (l.drop k ++ l.take k) = tot24 l := by rw [tot24_app, t1]; omega
  have b1 := tot24_bds l h
  have b2 := tot24_bds (l.take k) ht
  have b3 := tot24_bds (l.drop k) hd
  obtain ⟨a, b, l1, v1, x1, _, _⟩ := low_parts (tot24 l) 24 (by omega) (by omega) (by omega) (by omega)
  obtain ⟨c, d, l2, v2, x2, _, _⟩ := low_parts (tot24 (l.take k)) 24 (by omega) (by omega) (by omega) (by omega)
  obtain ⟨e, f, l3, v3, x3, _, _⟩ := low_parts (tot24 (l.drop k)) 24 (by omega) (by omega) (by omega) (by omega)
  refine ⟨a, b, c, d, e, f, ⟨by rw [s1, l1], by rw [s4, t2, l1], by rw [s2, l2], by rw [s3, l3], ?_⟩⟩
  rw [addV_ok (chk2_of v2 v3), low24 v2 v3 x2 x3 b2.1 b3.1, ← t1, l1]

end Go.Proofs.YtjgkliiofechfaaDoor
