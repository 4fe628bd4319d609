/- The program's product and quotient of two times. -/
import Derived.Test.YtjgkliiofechfaaDoorTimes
import Derived.Test.YtjgkliiofechfaaDoorShelf
namespace Go.Proofs.YtjgkliiofechfaaDoor
open Go.RowKit

/-- The upper and the lower half of a product. -/
def hi64 (x y : Int) : Int := ((x.toNat * y.toNat / 18446744073709551616 : Nat) : Int)
def lo64 (x y : Int) : Int := ((x.toNat * y.toNat % 18446744073709551616 : Nat) : Int)

theorem hi64_nonneg (x y : Int) : 0 ≤ hi64 x y := by unfold hi64; omega
theorem lo64_nonneg (x y : Int) : 0 ≤ lo64 x y := by unfold lo64; omega
theorem prod_nat {x y : Int} (hx : 0 ≤ x) (hy : 0 ≤ y) : ((x.toNat * y.toNat : Nat) : Int) = x * y := by
  rw [Int.natCast_mul, Int.toNat_of_nonneg hx, Int.toNat_of_nonneg hy]
theorem halves_low {x y : Int} (hx : 0 ≤ x) (hy : 0 ≤ y) (h : hi64 x y ≤ 0) : lo64 x y = x * y := by
  have e := prod_nat hx hy
  unfold hi64 at h; unfold lo64
  rw [← e]
  generalize x.toNat * y.toNat = p at *
  omega
theorem halves_big {x y : Int} (hx : 0 ≤ x) (hy : 0 ≤ y) (h : 0 < hi64 x y) : 1099511627776 < x * y := by
  have e := prod_nat hx hy
  unfold hi64 at h
  rw [← e]
  generalize x.toNat * y.toNat = p at *
  omega

theorem mul64_any (x y : Int) (w : World) (hx : 0 ≤ x) (hx1 : x ≤ 1099511627776) (hy : 0 ≤ y) (hy1 : y ≤ 1099511627776) :
    Calls Tryd.prog 52 #[.int .u64 x, .int .u64 y] w fun e w' => e = .returned (.tuple #[.int .u64 (hi64 x y), .int .u64 (lo64 x y)]) ∧ w = w' := by
  have h := Tryd.bits_Mul64 x.toNat y.toNat (by omega) (by omega) w
  rw [Int.toNat_of_nonneg hx, Int.toNat_of_nonneg hy] at h
  exact h.mono fun e w' ⟨he, hw⟩ => ⟨he, hw.symm⟩

set_option maxHeartbeats 1000000 in
theorem mul_any (a b c d : Int) (w : World) :
    Calls Tryd.prog 22 #[tv a b, tv c d] w fun e w' => e = .returned (tev (mulV a b c d)) ∧ Below w.heap.size w w' := by
  by_cases h : chk2 a b c d = 0
  · have v2 := valid2_of h
    have v := bd_of v2
    obtain ⟨a0, a1, b0, b1, c0, c1, d0, d1, ad0, ad1, cb0, cb1, bd0, bd1⟩ := v
    have hs := Lib.hid (mulV_ok h)
    have X := Lib.hid (cross_low (n := a) (d := b) (m := c) (c := d) a0 b0 c0 d0)
    have Y := Lib.hid (low_co (cross_coprime (n := a) (d := b) (m := c) (c := d) a0 b0 c0 d0 v2.l.co v2.r.co))
    have hne : (chk2 a b c d != 0) = false := by simp [h]
    clear h v2
    have p0 := cut_nonneg d a0
    have p1 := cut_le d a0
    have q0 := cut_nonneg b c0
    have q1 := cut_le b c0
    have r0 := cut_pos a d0
    have r1 := cut_le_right a (show 0 ≤ d by omega)
    have s0 := cut_pos c b0
    have s1 := cut_le_right c (show 0 ≤ b by omega)
    have t0 := mul_pos1 s0 r0
    have t1 := (mul_bd (show 0 ≤ b / gcdI c b by omega) (show b / gcdI c b ≤ 1048576 by omega) (show 0 ≤ d / gcdI a d by omega) (show d / gcdI a d ≤ 1048576 by omega)).2
    have g1 := gcdI_pos a d d0
    have g2 := gcdI_pos c b b0
    have k0 := hi64_nonneg (a / gcdI a d) (c / gcdI c b)
    have k1 := lo64_nonneg (a / gcdI a d) (c / gcdI c b)
    by_cases hh : 0 < hi64 (a / gcdI a d) (c / gcdI c b)
    · have hr := Lib.hid (show mulV a b c d = (0, 0, 4) by rw [hs.out, ← X.out, Y.out, if_neg]; have := halves_big p0 q0 hh; omega)
      clear hs X Y
      go_enter Tryd.func22, Tryd.ntmps22
      go_wp2_with fail
      refine (checkBoth_any a b c d _).mono ?_
      rintro e w1 ⟨rfl, hb1⟩
      obtain ⟨hc1, hf1⟩ := bcell hb1
      obtain ⟨z10, z11, z12⟩ := sz3 (show w.heap.size + 2 < w1.heap.size by have := hb1.size; simp at this; omega)
      go_wp2_with fail
      refine (common_any a d _ (by omega) (by omega) (by omega) (by omega)).mono ?_
      rintro e w2 ⟨rfl, rfl⟩
      go_wp2_with fail
      refine (common_any c b _ (by omega) (by omega) (by omega) (by omega)).mono ?_
      rintro e w2 ⟨rfl, rfl⟩
      go_wp2_with fail
      refine (mul64_any (a / gcdI a d) (c / gcdI c b) _ (by omega) (by omega) (by omega) (by omega)).mono ?_
      rintro e w2 ⟨rfl, rfl⟩
      go_wp2_with fail
      refine bodyPost_ret (v := .tuple #[.agg #[.int .i64 0, .int .i64 0], .int .i64 4]) (by simp [results, Tryd.results22, go_sem, hc1]) rfl ⟨by rw [hr.out], ?_⟩
      exact bs (bs (bl (ba (ba (ba (br _) _) _) _) hb1) (by simp; omega) _) (by simp; omega) _
    · have e0 := Lib.hid (halves_low p0 q0 (show hi64 (a / gcdI a d) (c / gcdI c b) ≤ 0 by omega))
      by_cases hl : 1099511627776 < lo64 (a / gcdI a d) (c / gcdI c b)
      · have hr := Lib.hid (show mulV a b c d = (0, 0, 4) by rw [hs.out, ← X.out, Y.out, if_neg]; have := e0.out; omega)
        clear hs X Y
        go_enter Tryd.func22, Tryd.ntmps22
        go_wp2_with fail
        refine (checkBoth_any a b c d _).mono ?_
        rintro e w1 ⟨rfl, hb1⟩
        obtain ⟨hc1, hf1⟩ := bcell hb1
        obtain ⟨z10, z11, z12⟩ := sz3 (show w.heap.size + 2 < w1.heap.size by have := hb1.size; simp at this; omega)
        go_wp2_with fail
        refine (common_any a d _ (by omega) (by omega) (by omega) (by omega)).mono ?_
        rintro e w2 ⟨rfl, rfl⟩
        go_wp2_with fail
        refine (common_any c b _ (by omega) (by omega) (by omega) (by omega)).mono ?_
        rintro e w2 ⟨rfl, rfl⟩
        go_wp2_with fail
        refine (mul64_any (a / gcdI a d) (c / gcdI c b) _ (by omega) (by omega) (by omega) (by omega)).mono ?_
        rintro e w2 ⟨rfl, rfl⟩
        go_wp2_with fail
        refine bodyPost_ret (v := .tuple #[.agg #[.int .i64 0, .int .i64 0], .int .i64 4]) (by simp [results, Tryd.results22, go_sem, hc1]) rfl ⟨by rw [hr.out], ?_⟩
        exact bs (bs (bl (ba (ba (ba (br _) _) _) _) hb1) (by simp; omega) _) (by simp; omega) _
      · have hr := Lib.hid (show mulV a b c d = low (lo64 (a / gcdI a d) (c / gcdI c b)) (b / gcdI c b * (d / gcdI a d)) by rw [hs.out, ← X.out, e0.out])
        clear hs X Y
        go_enter Tryd.func22, Tryd.ntmps22
        go_wp2_with fail
        refine (checkBoth_any a b c d _).mono ?_
        rintro e w1 ⟨rfl, hb1⟩
        obtain ⟨hc1, hf1⟩ := bcell hb1
        obtain ⟨z10, z11, z12⟩ := sz3 (show w.heap.size + 2 < w1.heap.size by have := hb1.size; simp at this; omega)
        go_wp2_with fail
        refine (common_any a d _ (by omega) (by omega) (by omega) (by omega)).mono ?_
        rintro e w2 ⟨rfl, rfl⟩
        go_wp2_with fail
        refine (common_any c b _ (by omega) (by omega) (by omega) (by omega)).mono ?_
        rintro e w2 ⟨rfl, rfl⟩
        go_wp2_with fail
        refine (mul64_any (a / gcdI a d) (c / gcdI c b) _ (by omega) (by omega) (by omega) (by omega)).mono ?_
        rintro e w2 ⟨rfl, rfl⟩
        go_wp2_with fail
        refine (lowest_any (lo64 (a / gcdI a d) (c / gcdI c b)) (b / gcdI c b * (d / gcdI a d)) _ (by omega) (by omega) (by omega) (by omega)).mono ?_
        rintro e w2 ⟨rfl, hb2⟩
        obtain ⟨hc2, hf2⟩ := bcell hb2
        go_wp2_with fail
        refine bodyPost_ret (v := tev (low (lo64 (a / gcdI a d) (c / gcdI c b)) (b / gcdI c b * (d / gcdI a d)))) (by simp [results, Tryd.results22, go_sem, hc1, hc2, z12]) rfl ⟨by rw [hr.out], ?_⟩
        exact bs (bs (bl (bl (ba (ba (ba (br _) _) _) _) hb1) hb2) (by simp; omega) _) (by simp; omega) _
  · have hs := Lib.hid (mulV_err h)
    have hne : (chk2 a b c d != 0) = true := by simp [h]
    clear h
    go_enter Tryd.func22, Tryd.ntmps22
    go_wp2_with fail
    refine (checkBoth_any a b c d _).mono ?_
    rintro e w1 ⟨rfl, hb1⟩
    obtain ⟨hc1, hf1⟩ := bcell hb1
    go_wp2_with fail
    refine bodyPost_ret (v := .tuple #[.agg #[.int .i64 0, .int .i64 0], .int .i64 (chk2 a b c d)]) (by simp [results, Tryd.results22, go_sem, hc1]) rfl ⟨by rw [hs.out], ?_⟩
    exact bs (bs (bl (ba (ba (ba (br _) _) _) _) hb1) (by simp; omega) _) (by simp; omega) _

set_option maxHeartbeats 1000000 in
theorem div_any (a b c d : Int) (w : World) :
    Calls Tryd.prog 24 #[tv a b, tv c d] w fun e w' => e = .returned (tev (divV a b c d)) ∧ Below w.heap.size w w' := by
  by_cases h : chk2 a b c d = 0
  · have v2 := valid2_of h
    have v := bd_of v2
    obtain ⟨a0, a1, b0, b1, c0, c1, d0, d1, ad0, ad1, cb0, cb1, bd0, bd1⟩ := v
    have hne : (chk2 a b c d != 0) = false := by simp [h]
    by_cases hz : c = 0
    · have hs := Lib.hid (divV_zero h hz)
      have hz1 : (c == 0) = true := by simp [hz]
      clear h v2 hz
      go_enter Tryd.func24, Tryd.ntmps24
      go_wp2_with fail
      refine (checkBoth_any a b c d _).mono ?_
      rintro e w1 ⟨rfl, hb1⟩
      obtain ⟨hc1, hf1⟩ := bcell hb1
      obtain ⟨z10, z11, z12⟩ := sz3 (show w.heap.size + 2 < w1.heap.size by have := hb1.size; simp at this; omega)
      go_wp2_with fail
      refine bodyPost_ret (v := .tuple #[.agg #[.int .i64 0, .int .i64 0], .int .i64 5]) (by simp [results, Tryd.results24, go_sem, hc1]) rfl ⟨by rw [hs.out], ?_⟩
      exact bs (bs (bl (ba (ba (ba (br _) _) _) _) hb1) (by simp; omega) _) (by simp; omega) _
    · have hs := Lib.hid (divV_ok h hz)
      have hz1 : (c == 0) = false := by simp [hz]
      have hz2 : 1 ≤ c := by omega
      have e1 := mul_pos1 b0 hz2
      have e2 := Int.mul_comm b c
      have e3 : b * c ≤ 1152921504606846976 := by omega
      clear h v2 hz e2
      go_enter Tryd.func24, Tryd.ntmps24
      go_wp2_with fail
      refine (checkBoth_any a b c d _).mono ?_
      rintro e w1 ⟨rfl, hb1⟩
      obtain ⟨hc1, hf1⟩ := bcell hb1
      obtain ⟨z10, z11, z12⟩ := sz3 (show w.heap.size + 2 < w1.heap.size by have := hb1.size; simp at this; omega)
      go_wp2_with fail
      refine (lowest_any (a * d) (b * c) _ (by omega) (by omega) (by omega) (by omega)).mono ?_
      rintro e w2 ⟨rfl, hb2⟩
      obtain ⟨hc2, hf2⟩ := bcell hb2
      go_wp2_with fail
      refine bodyPost_ret (v := tev (low (a * d) (b * c))) (by simp [results, Tryd.results24, go_sem, hc1, hc2, z12]) rfl ⟨by rw [hs.out], ?_⟩
      exact bs (bs (bl (bl (ba (ba (ba (br _) _) _) _) hb1) hb2) (by simp; omega) _) (by simp; omega) _
  · have hs := Lib.hid (divV_err h)
    have hne : (chk2 a b c d != 0) = true := by simp [h]
    clear h
    go_enter Tryd.func24, Tryd.ntmps24
    go_wp2_with fail
    refine (checkBoth_any a b c d _).mono ?_
    rintro e w1 ⟨rfl, hb1⟩
    obtain ⟨hc1, hf1⟩ := bcell hb1
    go_wp2_with fail
    refine bodyPost_ret (v := .tuple #[.agg #[.int .i64 0, .int .i64 0], .int .i64 (chk2 a b c d)]) (by simp [results, Tryd.results24, go_sem, hc1]) rfl ⟨by rw [hs.out], ?_⟩
    exact bs (bs (bl (ba (ba (ba (br _) _) _) _) hb1) (by simp; omega) _) (by simp; omega) _

end Go.Proofs.YtjgkliiofechfaaDoor
