/- The reference's product of two fractions in lowest terms, and its Mul and Div. -/
import Derived.Test.YtjgkliiofechfaaDoorSub
import Derived.Test.YtjgkliiofechfaaDoorMathB
namespace Go.Proofs.YtjgkliiofechfaaDoor
open Go.RowKit

theorem times_low {n d m c : Int} (hn : 0 ≤ n) (hd : 1 ≤ d) (hm : 0 ≤ m) (hc : 1 ≤ c) (h : gcdI n d = 1) (k : gcdI m c = 1) :
    low (n * m) (d * c) = if n / gcdI n c * (m / gcdI m d) ≤ 1099511627776 ∧ d / gcdI m d * (c / gcdI n c) ≤ 1048576 then (n / gcdI n c * (m / gcdI m d), d / gcdI m d * (c / gcdI n c), 0) else (0, 0, 4) := by
  rw [← cross_low hn hd hm hc, low_co (cross_coprime hn hd hm hc h k)]

set_option maxHeartbeats 1000000 in
theorem times_any (n d m c : Int) (w : World) (hn : 0 ≤ n) (hn1 : n ≤ 1099511627776) (hd : 1 ≤ d) (hd1 : d ≤ 1048576) (hm : 0 ≤ m) (hm1 : m ≤ 1099511627776) (hc : 1 ≤ c) (hc1 : c ≤ 1099511627776)
    (h : gcdI n d = 1) (k : gcdI m c = 1) :
    Calls Tryd.prog 53 #[.int .i64 n, .int .i64 d, .int .i64 m, .int .i64 c] w fun e w' => e = .returned (tev (low (n * m) (d * c))) ∧ Below w.heap.size w w' := by
  have L := Lib.hid (times_low hn hd hm hc h k)
  clear h k
  have g1 := gcdI_pos n c hc
  have g2 := gcdI_le n c hc
  have g3 := gcdI_pos m d hd
  have g4 := gcdI_le m d hd
  have n0 := cut_nonneg c hn
  have n1 := cut_le c hn
  have m0 := cut_nonneg d hm
  have m1 := cut_le d hm
  have d0 := cut_pos m hd
  have d1 := cut_le_right m (show 0 ≤ d by omega)
  have c0 := cut_pos n hc
  have c1 := cut_le_right n (show 0 ≤ c by omega)
  have b1 := mul_pos1 d0 c0
  have b2 := (mul_bd (show 0 ≤ d / gcdI m d by omega) (show d / gcdI m d ≤ 1048576 by omega) (show 0 ≤ c / gcdI n c by omega) (show c / gcdI n c ≤ 1099511627776 by omega)).2
  by_cases hz : 0 < n / gcdI n c
  · have B := Lib.hid (big_iff (m := m / gcdI m d) hz)
    by_cases hb : 1099511627776 / (n / gcdI n c) < m / gcdI m d
    · have hs := Lib.hid (show low (n * m) (d * c) = (0, 0, 4) by rw [L.out, if_neg]; have := B.out.1 hb; omega)
      clear L B
      go_enter Tryd.func53, Tryd.ntmps53
      go_wp2_with fail
      refine (gcd_any n c _ hn (by omega) (by omega) (by omega)).mono ?_
      rintro e w1 ⟨rfl, rfl⟩
      go_wp2_with fail
      refine (gcd_any m d _ hm (by omega) (by omega) (by omega)).mono ?_
      rintro e w1 ⟨rfl, rfl⟩
      go_wp2_with fail
      refine bodyPost_ret (v := .tuple #[.agg #[.int .i64 0, .int .i64 0], .int .i64 4]) (by simp [results, Tryd.results53, go_sem]) rfl ⟨by rw [hs.out], ?_⟩
      exact ba (br _) _
    · have hp : n / gcdI n c * (m / gcdI m d) ≤ 1099511627776 := by have := B.out; omega
      have hq := Int.mul_nonneg n0 m0
      by_cases hx : 1048576 < d / gcdI m d * (c / gcdI n c)
      · have hs := Lib.hid (show low (n * m) (d * c) = (0, 0, 4) by rw [L.out, if_neg]; omega)
        clear L B
        go_enter Tryd.func53, Tryd.ntmps53
        go_wp2_with fail
        refine (gcd_any n c _ hn (by omega) (by omega) (by omega)).mono ?_
        rintro e w1 ⟨rfl, rfl⟩
        go_wp2_with fail
        refine (gcd_any m d _ hm (by omega) (by omega) (by omega)).mono ?_
        rintro e w1 ⟨rfl, rfl⟩
        go_wp2_with fail
        refine bodyPost_ret (v := .tuple #[.agg #[.int .i64 0, .int .i64 0], .int .i64 4]) (by simp [results, Tryd.results53, go_sem]) rfl ⟨by rw [hs.out], ?_⟩
        exact ba (br _) _
      · have hs := Lib.hid (show low (n * m) (d * c) = (n / gcdI n c * (m / gcdI m d), d / gcdI m d * (c / gcdI n c), 0) by rw [L.out, if_pos]; omega)
        clear L B
        go_enter Tryd.func53, Tryd.ntmps53
        go_wp2_with fail
        refine (gcd_any n c _ hn (by omega) (by omega) (by omega)).mono ?_
        rintro e w1 ⟨rfl, rfl⟩
        go_wp2_with fail
        refine (gcd_any m d _ hm (by omega) (by omega) (by omega)).mono ?_
        rintro e w1 ⟨rfl, rfl⟩
        go_wp2_with fail
        refine bodyPost_ret (v := .tuple #[.agg #[.int .i64 (n / gcdI n c * (m / gcdI m d)), .int .i64 (d / gcdI m d * (c / gcdI n c))], .int .i64 0]) (by simp [results, Tryd.results53, go_sem]) rfl ⟨by rw [hs.out], ?_⟩
        exact ba (br _) _
  · have hz0 : n / gcdI n c = 0 := by omega
    have hp : n / gcdI n c * (m / gcdI m d) = 0 := by rw [hz0]; simp
    have hp1 : 0 ≤ n / gcdI n c * (m / gcdI m d) := by omega
    have hp2 : n / gcdI n c * (m / gcdI m d) ≤ 1099511627776 := by omega
    clear hp hz0
    by_cases hx : 1048576 < d / gcdI m d * (c / gcdI n c)
    · have hs := Lib.hid (show low (n * m) (d * c) = (0, 0, 4) by rw [L.out, if_neg]; omega)
      clear L
      go_enter Tryd.func53, Tryd.ntmps53
      go_wp2_with fail
      refine (gcd_any n c _ hn (by omega) (by omega) (by omega)).mono ?_
      rintro e w1 ⟨rfl, rfl⟩
      go_wp2_with fail
      refine (gcd_any m d _ hm (by omega) (by omega) (by omega)).mono ?_
      rintro e w1 ⟨rfl, rfl⟩
      go_wp2_with fail
      refine bodyPost_ret (v := .tuple #[.agg #[.int .i64 0, .int .i64 0], .int .i64 4]) (by simp [results, Tryd.results53, go_sem]) rfl ⟨by rw [hs.out], ?_⟩
      exact ba (br _) _
    · have hs := Lib.hid (show low (n * m) (d * c) = (n / gcdI n c * (m / gcdI m d), d / gcdI m d * (c / gcdI n c), 0) by rw [L.out, if_pos]; omega)
      clear L
      go_enter Tryd.func53, Tryd.ntmps53
      go_wp2_with fail
      refine (gcd_any n c _ hn (by omega) (by omega) (by omega)).mono ?_
      rintro e w1 ⟨rfl, rfl⟩
      go_wp2_with fail
      refine (gcd_any m d _ hm (by omega) (by omega) (by omega)).mono ?_
      rintro e w1 ⟨rfl, rfl⟩
      go_wp2_with fail
      refine bodyPost_ret (v := .tuple #[.agg #[.int .i64 (n / gcdI n c * (m / gcdI m d)), .int .i64 (d / gcdI m d * (c / gcdI n c))], .int .i64 0]) (by simp [results, Tryd.results53, go_sem]) rfl ⟨by rw [hs.out], ?_⟩
      exact ba (br _) _

/-- The product, and the quotient, of two times. -/
def mulV (a b c d : Int) : Int × Int × Int := if chk2 a b c d = 0 then low (a * c) (b * d) else (0, 0, chk2 a b c d)
def divV (a b c d : Int) : Int × Int × Int := if chk2 a b c d = 0 then (if c = 0 then (0, 0, 5) else low (a * d) (b * c)) else (0, 0, chk2 a b c d)

theorem mulV_err {a b c d : Int} (h : chk2 a b c d ≠ 0) : mulV a b c d = (0, 0, chk2 a b c d) := by unfold mulV; rw [if_neg h]
theorem mulV_ok {a b c d : Int} (h : chk2 a b c d = 0) : mulV a b c d = low (a * c) (b * d) := by unfold mulV; rw [if_pos h]
theorem divV_err {a b c d : Int} (h : chk2 a b c d ≠ 0) : divV a b c d = (0, 0, chk2 a b c d) := by unfold divV; rw [if_neg h]
theorem divV_zero {a b c d : Int} (h : chk2 a b c d = 0) (k : c = 0) : divV a b c d = (0, 0, 5) := by unfold divV; rw [if_pos h, if_pos k]
theorem divV_ok {a b c d : Int} (h : chk2 a b c d = 0) (k : c ≠ 0) : divV a b c d = low (a * d) (b * c) := by unfold divV; rw [if_pos h, if_neg k]

set_option maxHeartbeats 1000000 in
theorem rmul_any (a b c d : Int) (w : World) :
    Calls Tryd.prog 23 #[tv a b, tv c d] w fun e w' => e = .returned (tev (mulV a b c d)) ∧ Below w.heap.size w w' := by
  by_cases h : chk2 a b c d = 0
  · have v2 := valid2_of h
    have v := bd_of v2
    obtain ⟨a0, a1, b0, b1, c0, c1, d0, d1, ad0, ad1, cb0, cb1, bd0, bd1⟩ := v
    have co1 := Lib.hid v2.l.co
    have co2 := Lib.hid v2.r.co
    have hs := Lib.hid (mulV_ok h)
    have hne : (chk2 a b c d != 0) = false := by simp [h]
    clear h v2
    go_enter Tryd.func23, Tryd.ntmps23
    go_wp2_with fail
    refine (both_any a b c d _).mono ?_
    rintro e w1 ⟨rfl, hb1⟩
    obtain ⟨hc1, hf1⟩ := bcell hb1
    obtain ⟨z10, z11, z12⟩ := sz3 (show w.heap.size + 2 < w1.heap.size by have := hb1.size; simp at this; omega)
    go_wp2_with fail
    refine (times_any a b c d _ (by omega) (by omega) (by omega) (by omega) (by omega) (by omega) (by omega) (by omega) co1.out co2.out).mono ?_
    rintro e w2 ⟨rfl, hb2⟩
    obtain ⟨hc2, hf2⟩ := bcell hb2
    go_wp2_with fail
    refine bodyPost_ret (v := tev (low (a * c) (b * d))) (by simp [results, Tryd.results23, go_sem, hc1, hc2, z12]) rfl ⟨by rw [hs.out], ?_⟩
    exact bs (bs (bl (bl (ba (ba (ba (br _) _) _) _) hb1) hb2) (by simp; omega) _) (by simp; omega) _
  · have hs := Lib.hid (mulV_err h)
    have hne : (chk2 a b c d != 0) = true := by simp [h]
    clear h
    go_enter Tryd.func23, Tryd.ntmps23
    go_wp2_with fail
    refine (both_any a b c d _).mono ?_
    rintro e w1 ⟨rfl, hb1⟩
    obtain ⟨hc1, hf1⟩ := bcell hb1
    go_wp2_with fail
    refine bodyPost_ret (v := .tuple #[.agg #[.int .i64 0, .int .i64 0], .int .i64 (chk2 a b c d)]) (by simp [results, Tryd.results23, go_sem, hc1]) rfl ⟨by rw [hs.out], ?_⟩
    exact bs (bs (bl (ba (ba (ba (br _) _) _) _) hb1) (by simp; omega) _) (by simp; omega) _

set_option maxHeartbeats 1000000 in
theorem rdiv_any (a b c d : Int) (w : World) :
    Calls Tryd.prog 25 #[tv a b, tv c d] w fun e w' => e = .returned (tev (divV a b c d)) ∧ Below w.heap.size w w' := by
  by_cases h : chk2 a b c d = 0
  · have v2 := valid2_of h
    have v := bd_of v2
    obtain ⟨a0, a1, b0, b1, c0, c1, d0, d1, ad0, ad1, cb0, cb1, bd0, bd1⟩ := v
    have hne : (chk2 a b c d != 0) = false := by simp [h]
    by_cases hz : c = 0
    · have hs := Lib.hid (divV_zero h hz)
      have hz1 : (c == 0) = true := by simp [hz]
      clear h v2 hz
      go_enter Tryd.func25, Tryd.ntmps25
      go_wp2_with fail
      refine (both_any a b c d _).mono ?_
      rintro e w1 ⟨rfl, hb1⟩
      obtain ⟨hc1, hf1⟩ := bcell hb1
      obtain ⟨z10, z11, z12⟩ := sz3 (show w.heap.size + 2 < w1.heap.size by have := hb1.size; simp at this; omega)
      go_wp2_with fail
      refine bodyPost_ret (v := .tuple #[.agg #[.int .i64 0, .int .i64 0], .int .i64 5]) (by simp [results, Tryd.results25, go_sem, hc1]) rfl ⟨by rw [hs.out], ?_⟩
      exact bs (bs (bl (ba (ba (ba (br _) _) _) _) hb1) (by simp; omega) _) (by simp; omega) _
    · have hs := Lib.hid (divV_ok h hz)
      have hz1 : (c == 0) = false := by simp [hz]
      have hz2 : 1 ≤ c := by omega
      have co1 := Lib.hid v2.l.co
      have co2 := Lib.hid (gcdI_swap v2.r.co)
      clear h v2 hz
      go_enter Tryd.func25, Tryd.ntmps25
      go_wp2_with fail
      refine (both_any a b c d _).mono ?_
      rintro e w1 ⟨rfl, hb1⟩
      obtain ⟨hc1, hf1⟩ := bcell hb1
      obtain ⟨z10, z11, z12⟩ := sz3 (show w.heap.size + 2 < w1.heap.size by have := hb1.size; simp at this; omega)
      go_wp2_with fail
      refine (times_any a b d c _ (by omega) (by omega) (by omega) (by omega) (by omega) (by omega) (by omega) (by omega) co1.out co2.out).mono ?_
      rintro e w2 ⟨rfl, hb2⟩
      obtain ⟨hc2, hf2⟩ := bcell hb2
      go_wp2_with fail
      refine bodyPost_ret (v := tev (low (a * d) (b * c))) (by simp [results, Tryd.results25, go_sem, hc1, hc2, z12]) rfl ⟨by rw [hs.out], ?_⟩
      exact bs (bs (bl (bl (ba (ba (ba (br _) _) _) _) hb1) hb2) (by simp; omega) _) (by simp; omega) _
  · have hs := Lib.hid (divV_err h)
    have hne : (chk2 a b c d != 0) = true := by simp [h]
    clear h
    go_enter Tryd.func25, Tryd.ntmps25
    go_wp2_with fail
    refine (both_any a b c d _).mono ?_
    rintro e w1 ⟨rfl, hb1⟩
    obtain ⟨hc1, hf1⟩ := bcell hb1
    go_wp2_with fail
    refine bodyPost_ret (v := .tuple #[.agg #[.int .i64 0, .int .i64 0], .int .i64 (chk2 a b c d)]) (by simp [results, Tryd.results25, go_sem, hc1]) rfl ⟨by rw [hs.out], ?_⟩
    exact bs (bs (bl (ba (ba (ba (br _) _) _) _) hb1) (by simp; omega) _) (by simp; omega) _

end Go.Proofs.YtjgkliiofechfaaDoor
