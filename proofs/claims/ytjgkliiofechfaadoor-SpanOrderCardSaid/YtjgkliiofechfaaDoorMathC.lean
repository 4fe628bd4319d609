/- Plain facts: sums, products, whole multiples of small times are taken back. -/
import Derived.Test.YtjgkliiofechfaaDoorTimes
import Derived.Test.YtjgkliiofechfaaDoorSmall
namespace Go.Proofs.YtjgkliiofechfaaDoor

theorem small_valid {n d : Int} (h : Small n d) : Valid n d := ⟨by have := h.n1; omega, by have := h.n2; omega, h.d1, by have := h.d2; omega, h.co⟩

/-- A fraction of small numbers has lowest terms, of which it is the multiple. -/
theorem low_parts (N D : Int) (h0 : 0 ≤ N) (h1 : N ≤ 1099511627776) (h2 : 1 ≤ D) (h3 : D ≤ 1048576) :
    ∃ n d, low N D = (n, d, 0) ∧ Valid n d ∧ n * D = N * d ∧ n ≤ N ∧ d ≤ D := by
  have a1 := cut_le D h0
  have a2 := cut_le_right N (show 0 ≤ D by omega)
  have e := low_ok N D (by omega) (by omega)
  have v := low_valid N D h0 h2 (by rw [e])
  rw [e] at v
  refine ⟨_, _, e, v, ?_, a1, a2⟩
  have x1 := gcdI_back_left N D
  have x2 := gcdI_back_right N D
  calc N / gcdI N D * D = N / gcdI N D * (D / gcdI N D * gcdI N D) := by rw [x2]
    _ = (N / gcdI N D * gcdI N D) * (D / gcdI N D) := by simp only [Int.mul_comm, Int.mul_left_comm]
    _ = N * (D / gcdI N D) := by rw [x1]

structure Back (a b c d : Int) (s t u v : Int) : Prop where
  add : addV a b c d = (s, t, 0)
  add' : addV c d a b = (s, t, 0)
  sub : subV s t c d = (a, b, 0)
  mul : mulV a b c d = (u, v, 0)
  mul' : mulV c d a b = (u, v, 0)
  div : divV u v c d = (a, b, 0)

theorem small_bds {a b c d : Int} (h : Small a b) (k : Small c d) : 1 ≤ a * d ∧ a * d ≤ 192 ∧ 1 ≤ c * b ∧ c * b ≤ 192 ∧ 1 ≤ b * d ∧ b * d ≤ 64 ∧ 1 ≤ a * c ∧ a * c ≤ 576 := by
  have e1 := mul_bd (show 0 ≤ a by have := h.n1; omega) h.n2 (show 0 ≤ d by have := k.d1; omega) k.d2
  have e2 := mul_bd (show 0 ≤ c by have := k.n1; omega) k.n2 (show 0 ≤ b by have := h.d1; omega) h.d2
  have e3 := mul_bd (show 0 ≤ b by have := h.d1; omega) h.d2 (show 0 ≤ d by have := k.d1; omega) k.d2
  have e4 := mul_bd (show 0 ≤ a by have := h.n1; omega) h.n2 (show 0 ≤ c by have := k.n1; omega) k.n2
  have f1 := mul_pos1 h.n1 k.d1
  have f2 := mul_pos1 k.n1 h.d1
  have f3 := mul_pos1 h.d1 k.d1
  have f4 := mul_pos1 h.n1 k.n1
  omega

theorem back_of {a b c d : Int} (h : Small a b) (k : Small c d) : ∃ s t u v, Back a b c d s t u v := by
  obtain ⟨e1, e2, e3, e4, e5, e6, e7, e8⟩ := small_bds h k
  have vh := small_valid h
  have vk := small_valid k
  obtain ⟨s, t, l1, v1, x1, _, _⟩ := low_parts (a * d + c * b) (b * d) (by omega) (by omega) (by omega) (by omega)
  obtain ⟨u, v, l2, v2, x2, _, _⟩ := low_parts (a * c) (b * d) (by omega) (by omega) (by omega) (by omega)
  have hb := h.d1
  have hd := k.d1
  have hc := k.n1
  have ha := h.n1
  have y1 : (s * d - c * t) * b = a * (t * d) := by
    have : s * d * b = (a * d + c * b) * t := by rw [← x1]; simp only [Int.mul_comm, Int.mul_left_comm]
    rw [Int.sub_mul, this, Int.add_mul]
    have z1 : c * b * t = c * t * b := by simp only [Int.mul_comm, Int.mul_left_comm]
    have z2 : a * d * t = a * (t * d) := by simp only [Int.mul_comm, Int.mul_left_comm]
    omega
  have y2 : u * d * b = a * (v * c) := by
    have : u * d * b = a * c * v := by rw [← x2]; simp only [Int.mul_comm, Int.mul_left_comm]
    rw [this]; simp only [Int.mul_comm, Int.mul_left_comm]
  have y3 : ¬ s * d < c * t := by
    intro hlt
    have p1 : 0 ≤ a * (t * d) := Int.mul_nonneg (by omega) (Int.mul_nonneg (by have := v1.d0; omega) (by omega))
    have p2 : (s * d - c * t) * b < 0 := Int.mul_neg_of_neg_of_pos (by omega) (by omega)
    omega
  refine ⟨s, t, u, v, ⟨?_, ?_, ?_, ?_, ?_, ?_⟩⟩
  · rw [addV_ok (chk2_of vh vk), l1]
  · rw [addV_ok (chk2_of vk vh), ← l1, Int.add_comm, Int.mul_comm d b]
  · rw [subV_ok (chk2_of v1 vk) y3]
    exact low_of _ _ a b (by omega) (mul_pos1 v1.d0 hd) vh y1
  · rw [mulV_ok (chk2_of vh vk), l2]
  · rw [mulV_ok (chk2_of vk vh), ← l2, Int.mul_comm d b, Int.mul_comm c a]
  · rw [divV_ok (chk2_of v2 vk) (by omega)]
    exact low_of _ _ a b (Int.mul_nonneg v2.n0 (by omega)) (mul_pos1 v2.d0 hc) vh y2

structure Rests (a b c d : Int) (q n m s t : Int) : Prop where
  quo : wholeQ a b c d = q
  rest : wholeR a b c d = (n, m, 0)
  q0 : 0 ≤ q
  q1 : q ≤ 1000
  mul : mulV q 1 c d = (s, t, 0)
  add : addV s t n m = (a, b, 0)
  cmp : cmpV n m c d = -1
  ok : chk2 n m c d = 0

theorem rests_of {a b c d : Int} (h : Small a b) (k : Small c d) : ∃ q n m s t, Rests a b c d q n m s t := by
  obtain ⟨e1, e2, e3, e4, e5, e6, e7, e8⟩ := small_bds h k
  have vh := small_valid h
  have vk := small_valid k
  have hb := h.d1
  have hd := k.d1
  have hc := k.n1
  have ha := h.n1
  have r0 := Int.emod_nonneg (a * d) (show c * b ≠ 0 by omega)
  have r1 := Int.emod_lt_of_pos (a * d) (show 0 < c * b by omega)
  have r2 := Int.mul_ediv_add_emod (a * d) (c * b)
  have q0 : 0 ≤ a * d / (c * b) := Int.ediv_nonneg (by omega) (by omega)
  have q1 : a * d / (c * b) ≤ a * d := Int.ediv_le_self _ (by omega)
  generalize hq : a * d / (c * b) = q at *
  generalize hr : a * d % (c * b) = r at *
  obtain ⟨n, m, l1, v1, x1, n1, m1⟩ := low_parts r (b * d) (by omega) (by omega) (by omega) (by omega)
  have w1 := mul_bd q0 (show q ≤ 192 by omega) (show 0 ≤ c by omega) k.n2
  obtain ⟨s, t, l2, v2, x2, n2, m2⟩ := low_parts (q * c) (1 * d) (by omega) (by omega) (by omega) (by have := k.d2; omega)
  have vq : Valid q 1 := ⟨q0, by omega, by omega, by omega, gcdI_one_right q⟩
  have hm := v1.d0
  have ht := v2.d0
  have y1 : (s * m + n * t) * b = a * (t * m) := by
    have z : ((s * m + n * t) * b) * d = (a * (t * m)) * d := by
      have a1 : ((s * m + n * t) * b) * d = (s * (1 * d)) * (m * b) + (n * (b * d)) * t := by
        rw [Int.add_mul, Int.add_mul, Int.one_mul]
        have u1 : s * m * b * d = s * d * (m * b) := by simp only [Int.mul_comm, Int.mul_left_comm]
        have u2 : n * t * b * d = n * (b * d) * t := by simp only [Int.mul_comm, Int.mul_left_comm]
        rw [u1, u2]
      rw [a1, x2, x1]
      have a2 : q * c * t * (m * b) + r * m * t = (c * b * q + r) * (t * m) := by
        rw [Int.add_mul]
        have u1 : q * c * t * (m * b) = c * b * q * (t * m) := by simp only [Int.mul_comm, Int.mul_left_comm]
        have u2 : r * m * t = r * (t * m) := by simp only [Int.mul_comm, Int.mul_left_comm]
        rw [u1, u2]
      rw [a2, r2]
      simp only [Int.mul_comm, Int.mul_left_comm]
    exact Int.eq_of_mul_eq_mul_right (by omega) z
  have y2 : n * d < c * m := by
    have z : n * d * b < c * m * b := by
      have u1 : n * d * b = r * m := by rw [← x1]; simp only [Int.mul_comm, Int.mul_left_comm]
      have u2 : c * m * b = c * b * m := by simp only [Int.mul_comm, Int.mul_left_comm]
      rw [u1, u2]
      exact Int.mul_lt_mul_of_pos_right r1 (by omega)
    exact Int.lt_of_mul_lt_mul_right z (by omega)
  refine ⟨q, n, m, s, t, ⟨?_, ?_, q0, by omega, ?_, ?_, ?_, ?_⟩⟩
  · rw [wholeQ_ok (chk2_of vh vk) (by omega), hr, l1, hq]; exact if_pos rfl
  · rw [wholeR_ok (chk2_of vh vk) (by omega), hr, l1]
  · rw [mulV_ok (chk2_of vq vk), l2]
  · rw [addV_ok (chk2_of v2 v1)]
    exact low_of _ _ a b (by have p1 := Int.mul_nonneg v2.n0 (show 0 ≤ m by omega); have p2 := Int.mul_nonneg v1.n0 (show 0 ≤ t by omega); omega) (mul_pos1 ht hm) vh y1
  · exact cmpV_lt (chk2_of v1 vk) y2
  · exact chk2_of v1 vk

end Go.Proofs.YtjgkliiofechfaaDoor
