/- Plain facts on whole numbers for the seat's walks: greatest common divisors, fractions in lowest terms. Nothing of a program is imported here. -/
namespace Go.Proofs.Ythokapebcplmkaa

theorem dm_eq {a b : Nat} : b * (a / b) + a % b = a := Nat.div_add_mod a b

/-- The greatest common divisor of two integers, as an integer. -/
def gcdI (a b : Int) : Int := ((Nat.gcd a.natAbs b.natAbs : Nat) : Int)

theorem gcdI_nat (a b : Nat) : gcdI (a : Int) (b : Int) = ((Nat.gcd a b : Nat) : Int) := rfl

theorem gcdI_pos (a b : Int) (h : 1 ≤ b) : 1 ≤ gcdI a b := by
  unfold gcdI
  have : 0 < Nat.gcd a.natAbs b.natAbs := Nat.gcd_pos_of_pos_right _ (by omega)
  omega

theorem gcdI_nonneg (a b : Int) : 0 ≤ gcdI a b := by unfold gcdI; omega

theorem gcdI_le (a b : Int) (h : 1 ≤ b) : gcdI a b ≤ b := by
  unfold gcdI
  have : Nat.gcd a.natAbs b.natAbs ≤ b.natAbs := Nat.gcd_le_right _ (by omega)
  omega

theorem gcdI_le_left (a b : Int) (h : 1 ≤ a) : gcdI a b ≤ a := by
  unfold gcdI
  have : Nat.gcd a.natAbs b.natAbs ≤ a.natAbs := Nat.gcd_le_left _ (by omega)
  omega

theorem gcdI_comm (a b : Int) : gcdI a b = gcdI b a := by
  unfold gcdI; rw [Nat.gcd_comm]

theorem gcdI_mod (a b : Int) (ha : 0 ≤ a) (hb : 1 ≤ b) : gcdI b (a % b) = gcdI a b := by
  obtain ⟨m, rfl⟩ := Int.eq_ofNat_of_zero_le ha
  obtain ⟨n, rfl⟩ := Int.eq_ofNat_of_zero_le (show 0 ≤ b by omega)
  have : ((m : Int) % (n : Int)) = ((m % n : Nat) : Int) := by simp
  rw [this, gcdI_nat, gcdI_nat, Nat.gcd_comm m n]
  rw [Nat.gcd_rec n m, Nat.gcd_comm]

theorem gcdI_zero_left (b : Int) (hb : 0 ≤ b) : gcdI 0 b = b := by
  unfold gcdI; simp; omega

theorem gcdI_zero_right (b : Int) (hb : 0 ≤ b) : gcdI b 0 = b := by
  rw [gcdI_comm]; exact gcdI_zero_left b hb

theorem gcdI_of_mod (a b : Int) (ha : 0 ≤ a) (hb : 1 ≤ b) (h : a % b = 0) : gcdI a b = b := by
  rw [← gcdI_mod a b ha hb, h, gcdI_zero_right b (by omega)]

theorem gcdI_one_right (a : Int) : gcdI a 1 = 1 := by unfold gcdI; simp

theorem gcdI_dvd_left (a b : Int) : gcdI a b ∣ a := by
  unfold gcdI
  exact Int.ofNat_dvd_left.2 (Nat.gcd_dvd_left _ _)

theorem gcdI_dvd_right (a b : Int) : gcdI a b ∣ b := by
  rw [gcdI_comm]; exact gcdI_dvd_left b a

/-- The two parts in lowest terms, as naturals. -/
theorem div_gcd_coprime (a b : Nat) (hb : 0 < b) : Nat.gcd (a / Nat.gcd a b) (b / Nat.gcd a b) = 1 :=
  Nat.coprime_div_gcd_div_gcd (Nat.gcd_pos_of_pos_right _ hb)

/-- What the program and the reference give for n divided by d: numerator, denominator, error. -/
def low (n d : Int) : Int × Int × Int :=
  if n / gcdI n d ≤ 1099511627776 ∧ d / gcdI n d ≤ 1048576 then (n / gcdI n d, d / gcdI n d, 0) else (0, 0, 4)

theorem low_ok (n d : Int) (h : n / gcdI n d ≤ 1099511627776) (h2 : d / gcdI n d ≤ 1048576) : low n d = (n / gcdI n d, d / gcdI n d, 0) := by
  unfold low; rw [if_pos ⟨h, h2⟩]

theorem low_no1 (n d : Int) (h : 1099511627776 < n / gcdI n d) : low n d = (0, 0, 4) := by
  unfold low; rw [if_neg (by omega)]

theorem low_no2 (n d : Int) (h : 1048576 < d / gcdI n d) : low n d = (0, 0, 4) := by
  unfold low; rw [if_neg (by omega)]

/-- Which error a time has. -/
def chk (n d : Int) : Int := if n < 0 ∨ 1099511627776 < n ∨ d < 1 ∨ 1048576 < d then 2 else if gcdI n d = 1 then 0 else 3

structure Valid (n d : Int) : Prop where
  n0 : 0 ≤ n
  n1 : n ≤ 1099511627776
  d0 : 1 ≤ d
  d1 : d ≤ 1048576
  co : gcdI n d = 1

theorem chk_valid {n d : Int} (h : Valid n d) : chk n d = 0 := by
  obtain ⟨a, b, c, e, f⟩ := h
  unfold chk; rw [if_neg (by omega), if_pos f]

theorem valid_of_chk {n d : Int} (h : chk n d = 0) : Valid n d := by
  unfold chk at h
  split at h
  · omega
  · split at h
    · exact ⟨by omega, by omega, by omega, by omega, by assumption⟩
    · omega

theorem gcd_pos_int (n d : Int) (hd : 1 ≤ d) : 0 < Nat.gcd n.natAbs d.natAbs := Nat.gcd_pos_of_pos_right _ (by omega)

theorem div_gcdI (n d : Int) (hn : 0 ≤ n) : n / gcdI n d = ((n.natAbs / Nat.gcd n.natAbs d.natAbs : Nat) : Int) := by
  unfold gcdI
  rw [Int.natCast_ediv, Int.natAbs_of_nonneg hn]

theorem div_gcdI_right (n d : Int) (hd : 0 ≤ d) : d / gcdI n d = ((d.natAbs / Nat.gcd n.natAbs d.natAbs : Nat) : Int) := by
  rw [gcdI_comm, div_gcdI d n hd, Nat.gcd_comm]

theorem low_valid (n d : Int) (hn : 0 ≤ n) (hd : 1 ≤ d) (h : (low n d).2.2 = 0) : Valid (low n d).1 (low n d).2.1 := by
  unfold low at h ⊢
  split at h
  · rename_i hc
    rw [if_pos hc]
    have g := gcd_pos_int n d hd
    refine ⟨?_, hc.1, ?_, hc.2, ?_⟩
    · show 0 ≤ n / gcdI n d
      rw [div_gcdI n d hn]; exact Int.natCast_nonneg _
    · show 1 ≤ d / gcdI n d
      rw [div_gcdI_right n d (by omega)]
      have : 0 < d.natAbs / Nat.gcd n.natAbs d.natAbs := Nat.div_pos (Nat.gcd_le_right _ (by omega)) g
      omega
    · show gcdI (n / gcdI n d) (d / gcdI n d) = 1
      rw [div_gcdI n d hn, div_gcdI_right n d (by omega), gcdI_nat, Nat.coprime_div_gcd_div_gcd g]; rfl
  · simp at h

theorem low_err (n d : Int) : (low n d).2.2 = 0 ∨ low n d = (0, 0, 4) := by
  unfold low; split
  · left; rfl
  · right; rfl

theorem low_idem {n d : Int} (h : Valid n d) : low n d = (n, d, 0) := by
  obtain ⟨a, b, c, e, f⟩ := h
  unfold low; rw [f]; simp; omega

/-- A fraction k times as wide has the same lowest terms. -/
theorem low_scale (n d k : Int) (hn : 0 ≤ n) (hd : 1 ≤ d) (hk : 1 ≤ k) : low (n * k) (d * k) = low n d := by
  obtain ⟨n', rfl⟩ := Int.eq_ofNat_of_zero_le hn
  obtain ⟨d', rfl⟩ := Int.eq_ofNat_of_zero_le (show 0 ≤ d by omega)
  obtain ⟨k', rfl⟩ := Int.eq_ofNat_of_zero_le (show 0 ≤ k by omega)
  have g : gcdI ((n' : Int) * k') ((d' : Int) * k') = gcdI n' d' * k' := by
    rw [← Int.natCast_mul, ← Int.natCast_mul, gcdI_nat, gcdI_nat, Nat.gcd_mul_right]; simp
  have hk0 : (k' : Int) ≠ 0 := by omega
  unfold low
  rw [g, Int.mul_ediv_mul_of_pos_left _ _ (show 0 < (k' : Int) by omega), Int.mul_ediv_mul_of_pos_left _ _ (show 0 < (k' : Int) by omega)]

/-- Two equal fractions have the same lowest terms. -/
theorem low_eq (a b c d : Int) (ha : 0 ≤ a) (hb : 1 ≤ b) (hc : 0 ≤ c) (hd : 1 ≤ d) (h : a * d = c * b) : low a b = low c d := by
  rw [← low_scale a b d ha hb hd, ← low_scale c d b hc hd hb, h, Int.mul_comm b d]

theorem low_of (a b n d : Int) (ha : 0 ≤ a) (hb : 1 ≤ b) (h : Valid n d) (e : a * d = n * b) : low a b = (n, d, 0) := by
  rw [low_eq a b n d ha hb h.n0 h.d0 e, low_idem h]

end Go.Proofs.Ythokapebcplmkaa
