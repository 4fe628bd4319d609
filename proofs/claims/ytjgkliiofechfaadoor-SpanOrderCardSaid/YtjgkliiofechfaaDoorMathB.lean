/- Plain facts: products of fractions cut crosswise, and what the two ways to multiply give. -/
import Derived.Test.YtjgkliiofechfaaDoorMath
namespace Go.Proofs.YtjgkliiofechfaaDoor

theorem gcdI_swap {a b : Int} (h : gcdI a b = 1) : gcdI b a = 1 := by rw [gcdI_comm]; exact h

theorem gcdI_mul_left {a b c : Int} (h : gcdI a c = 1) (k : gcdI b c = 1) : gcdI (a * b) c = 1 := by
  unfold gcdI at *
  have h' : Nat.gcd a.natAbs c.natAbs = 1 := by omega
  have k' : Nat.gcd b.natAbs c.natAbs = 1 := by omega
  rw [Int.natAbs_mul, Nat.Coprime.mul_left h' k']; rfl

theorem gcdI_mul_right {a b c : Int} (h : gcdI c a = 1) (k : gcdI c b = 1) : gcdI c (a * b) = 1 :=
  gcdI_swap (gcdI_mul_left (gcdI_swap h) (gcdI_swap k))

/-- Divisors of coprime numbers are coprime. -/
theorem gcdI_of_dvd {a b n d : Int} (h : gcdI n d = 1) (ha : a ∣ n) (hb : b ∣ d) : gcdI a b = 1 := by
  unfold gcdI at *
  have h' : Nat.gcd n.natAbs d.natAbs = 1 := by omega
  have := Nat.Coprime.coprime_dvd_left (Int.natAbs_dvd_natAbs.2 ha) h'
  have := Nat.Coprime.coprime_dvd_right (Int.natAbs_dvd_natAbs.2 hb) this
  have t : Nat.gcd a.natAbs b.natAbs = 1 := this
  rw [t]; rfl

theorem gcdI_cut (a b : Int) (ha : 0 ≤ a) (hb : 1 ≤ b) : gcdI (a / gcdI a b) (b / gcdI a b) = 1 := by
  rw [div_gcdI a b ha, div_gcdI_right a b (by omega), gcdI_nat, Nat.coprime_div_gcd_div_gcd (gcd_pos_int a b hb)]; rfl

theorem gcdI_back_left (a b : Int) : a / gcdI a b * gcdI a b = a := Int.ediv_mul_cancel (gcdI_dvd_left a b)
theorem gcdI_back_right (a b : Int) : b / gcdI a b * gcdI a b = b := Int.ediv_mul_cancel (gcdI_dvd_right a b)

theorem dvd_cut_left (a b : Int) : a / gcdI a b ∣ a := ⟨gcdI a b, (gcdI_back_left a b).symm⟩
theorem dvd_cut_right (a b : Int) : b / gcdI a b ∣ b := ⟨gcdI a b, (gcdI_back_right a b).symm⟩

/-- Two fractions in lowest terms, multiplied behind a crosswise cut: in lowest terms. -/
theorem cross_coprime {n d m c : Int} (hn : 0 ≤ n) (hd : 1 ≤ d) (hm : 0 ≤ m) (hc : 1 ≤ c) (h : gcdI n d = 1) (k : gcdI m c = 1) :
    gcdI (n / gcdI n c * (m / gcdI m d)) (d / gcdI m d * (c / gcdI n c)) = 1 := by
  refine gcdI_mul_left (gcdI_mul_right ?_ ?_) (gcdI_mul_right ?_ ?_)
  · exact gcdI_of_dvd h (dvd_cut_left n c) (dvd_cut_right m d)
  · exact gcdI_cut n c hn hc
  · exact gcdI_cut m d hm hd
  · exact gcdI_of_dvd k (dvd_cut_left m d) (dvd_cut_right n c)

theorem cut_nonneg {a : Int} (b : Int) (ha : 0 ≤ a) : 0 ≤ a / gcdI a b := Int.ediv_nonneg ha (gcdI_nonneg a b)
theorem cut_pos (a : Int) {b : Int} (hb : 1 ≤ b) : 1 ≤ b / gcdI a b := by
  have h1 := gcdI_back_right a b
  have h2 := gcdI_nonneg a b
  have h3 : 0 ≤ b / gcdI a b := Int.ediv_nonneg (by omega) h2
  by_cases h : b / gcdI a b = 0
  · rw [h] at h1; simp at h1; omega
  · omega
theorem cut_pos_left {a : Int} (b : Int) (ha : 1 ≤ a) : 1 ≤ a / gcdI a b := by
  rw [gcdI_comm]; exact cut_pos b ha
theorem cut_le {a : Int} (b : Int) (ha : 0 ≤ a) : a / gcdI a b ≤ a := Int.ediv_le_self _ ha
theorem cut_le_right (a : Int) {b : Int} (hb : 0 ≤ b) : b / gcdI a b ≤ b := Int.ediv_le_self _ hb

/-- The crosswise cut keeps the fraction. -/
theorem cross_low {n d m c : Int} (hn : 0 ≤ n) (hd : 1 ≤ d) (hm : 0 ≤ m) (hc : 1 ≤ c) :
    low (n / gcdI n c * (m / gcdI m d)) (d / gcdI m d * (c / gcdI n c)) = low (n * m) (d * c) := by
  have e1 : n * m = n / gcdI n c * (m / gcdI m d) * (gcdI n c * gcdI m d) := by
    have a := gcdI_back_left n c
    have b := gcdI_back_left m d
    calc n * m = (n / gcdI n c * gcdI n c) * (m / gcdI m d * gcdI m d) := by rw [a, b]
      _ = _ := by simp only [Int.mul_assoc, Int.mul_left_comm, Int.mul_comm]
  have e2 : d * c = d / gcdI m d * (c / gcdI n c) * (gcdI n c * gcdI m d) := by
    have a := gcdI_back_right n c
    have b := gcdI_back_right m d
    calc d * c = (d / gcdI m d * gcdI m d) * (c / gcdI n c * gcdI n c) := by rw [a, b]
      _ = _ := by simp only [Int.mul_assoc, Int.mul_left_comm, Int.mul_comm]
  have p1 : 0 ≤ n / gcdI n c * (m / gcdI m d) := Int.mul_nonneg (cut_nonneg c hn) (cut_nonneg d hm)
  have p2 : 1 ≤ d / gcdI m d * (c / gcdI n c) := by
    have := Int.mul_pos (show 0 < d / gcdI m d by have := cut_pos m hd; omega) (show 0 < c / gcdI n c by have := cut_pos n hc; omega)
    omega
  have p3 : 1 ≤ gcdI n c * gcdI m d := by
    have := Int.mul_pos (show 0 < gcdI n c by have := gcdI_pos n c hc; omega) (show 0 < gcdI m d by have := gcdI_pos m d hd; omega)
    omega
  rw [e1, e2, low_scale _ _ _ p1 p2 p3]

theorem low_co {x y : Int} (h : gcdI x y = 1) : low x y = if x ≤ 1099511627776 ∧ y ≤ 1048576 then (x, y, 0) else (0, 0, 4) := by
  unfold low; rw [h]; simp

theorem big_iff {n m : Int} (hn : 0 < n) : 1099511627776 / n < m ↔ 1099511627776 < n * m := by
  have := Int.le_ediv_iff_mul_le (a := m) (b := 1099511627776) hn
  rw [Int.mul_comm] at this
  omega

end Go.Proofs.YtjgkliiofechfaaDoor
