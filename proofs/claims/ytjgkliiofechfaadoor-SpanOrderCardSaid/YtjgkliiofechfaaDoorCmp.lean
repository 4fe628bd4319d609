/- The order of two times, making a time, the reference's sum of two times, the kit's T. -/
import Derived.Test.YtjgkliiofechfaaDoorSub
namespace Go.Proofs.YtjgkliiofechfaaDoor
open Go.RowKit

theorem cmpV_err {a b c d : Int} (h : chk2 a b c d ≠ 0) : cmpV a b c d = 0 := by unfold cmpV; rw [if_neg h]
theorem cmpV_lt {a b c d : Int} (h : chk2 a b c d = 0) (k : a * d < c * b) : cmpV a b c d = -1 := by unfold cmpV; rw [if_pos h, if_pos k]
theorem cmpV_gt {a b c d : Int} (h : chk2 a b c d = 0) (k : c * b < a * d) : cmpV a b c d = 1 := by unfold cmpV; rw [if_pos h, if_neg (by omega), if_pos k]
theorem cmpV_eq {a b c d : Int} (h : chk2 a b c d = 0) (k : a * d = c * b) : cmpV a b c d = 0 := by unfold cmpV; rw [if_pos h, if_neg (by omega), if_neg (by omega)]

set_option maxHeartbeats 1000000 in
theorem cmp_any (a b c d : Int) (w : World) :
    Calls Tryd.prog 26 #[tv a b, tv c d] w fun e w' => e = .returned (.tuple #[.int .i64 (cmpV a b c d), .int .i64 (chk2 a b c d)]) ∧ Below w.heap.size w w' := by
  by_cases h : chk2 a b c d = 0
  · have H := Lib.hid h
    have hne : (chk2 a b c d != 0) = false := by simp [h]
    clear h
    go_enter Tryd.func26, Tryd.ntmps26
    go_wp2_with fail
    refine (checkBoth_any a b c d _).mono ?_
    rintro e w1 ⟨rfl, hb1⟩
    obtain ⟨hc1, hf1⟩ := bcell hb1
    go_wp2_with fail
    refine (compare_any a b c d _ H.out).mono ?_
    rintro e w2 ⟨rfl, hb2⟩
    go_wp2_with fail
    go_ret2
    rw [H.out]
    exact ⟨rfl, bl (bl (ba (ba (br _) _) _) hb1) hb2⟩
  · have hs := Lib.hid (cmpV_err h)
    have hne : (chk2 a b c d != 0) = true := by simp [h]
    clear h
    go_enter Tryd.func26, Tryd.ntmps26
    go_wp2_with fail
    refine (checkBoth_any a b c d _).mono ?_
    rintro e w1 ⟨rfl, hb1⟩
    go_wp2_with fail
    go_ret2
    rw [hs.out]
    exact ⟨rfl, bl (ba (ba (br _) _) _) hb1⟩

set_option maxHeartbeats 1000000 in
theorem rcmp_any (a b c d : Int) (w : World) :
    Calls Tryd.prog 27 #[tv a b, tv c d] w fun e w' => e = .returned (.tuple #[.int .i64 (cmpV a b c d), .int .i64 (chk2 a b c d)]) ∧ Below w.heap.size w w' := by
  by_cases h : chk2 a b c d = 0
  · have v := bd_of (valid2_of h)
    obtain ⟨a0, a1, b0, b1, c0, c1, d0, d1, ad0, ad1, cb0, cb1, bd0, bd1⟩ := v
    have H := Lib.hid h
    have hne : (chk2 a b c d != 0) = false := by simp [h]
    have x1 : IntKind.i64.wrap (a * d) = a * d := IntWalk.i64_in _ (by omega)
    have x2 : IntKind.i64.wrap (c * b) = c * b := IntWalk.i64_in _ (by omega)
    clear h
    by_cases k1 : a * d < c * b
    · have hs := Lib.hid (cmpV_lt H.out k1)
      go_enter Tryd.func27, Tryd.ntmps27
      go_wp2_with fail
      refine (both_any a b c d _).mono ?_
      rintro e w1 ⟨rfl, hb1⟩
      obtain ⟨hc1, hf1⟩ := bcell hb1
      go_wp2_with fail
      go_quiet (fail)
      clear x1 x2
      go_wp2_with fail
      go_ret2
      rw [H.out, hs.out]
      exact ⟨rfl, below_drewN (bl (ba (ba (br _) _) _) hb1) _⟩
    by_cases k2 : c * b < a * d
    · have hs := Lib.hid (cmpV_gt H.out k2)
      go_enter Tryd.func27, Tryd.ntmps27
      go_wp2_with fail
      refine (both_any a b c d _).mono ?_
      rintro e w1 ⟨rfl, hb1⟩
      obtain ⟨hc1, hf1⟩ := bcell hb1
      go_wp2_with fail
      go_quiet (fail)
      clear x1 x2
      go_wp2_with fail
      go_ret2
      rw [H.out, hs.out]
      exact ⟨rfl, below_drewN (bl (ba (ba (br _) _) _) hb1) _⟩
    · have hs := Lib.hid (cmpV_eq H.out (show a * d = c * b by omega))
      go_enter Tryd.func27, Tryd.ntmps27
      go_wp2_with fail
      refine (both_any a b c d _).mono ?_
      rintro e w1 ⟨rfl, hb1⟩
      obtain ⟨hc1, hf1⟩ := bcell hb1
      go_wp2_with fail
      go_quiet (fail)
      clear x1 x2
      go_wp2_with fail
      go_ret2
      rw [H.out, hs.out]
      exact ⟨rfl, below_drewN (bl (ba (ba (br _) _) _) hb1) _⟩
  · have hs := Lib.hid (cmpV_err h)
    have hne : (chk2 a b c d != 0) = true := by simp [h]
    clear h
    go_enter Tryd.func27, Tryd.ntmps27
    go_wp2_with fail
    refine (both_any a b c d _).mono ?_
    rintro e w1 ⟨rfl, hb1⟩
    go_wp2_with fail
    go_ret2
    rw [hs.out]
    exact ⟨rfl, bl (ba (ba (br _) _) _) hb1⟩

/-- Making a time. -/
def makeV (n d : Int) : Int × Int × Int := if n < 0 ∨ d < 0 then (0, 0, 2) else if d = 0 then (0, 0, 5) else low n d
theorem makeV_neg {n d : Int} (h : n < 0 ∨ d < 0) : makeV n d = (0, 0, 2) := by unfold makeV; rw [if_pos h]
theorem makeV_zero {n d : Int} (h : 0 ≤ n) (k : d = 0) : makeV n d = (0, 0, 5) := by unfold makeV; rw [if_neg (by omega), if_pos k]
theorem makeV_ok {n d : Int} (h : 0 ≤ n) (k : 1 ≤ d) : makeV n d = low n d := by unfold makeV; rw [if_neg (by omega), if_neg (by omega)]

set_option maxHeartbeats 1000000 in
theorem make_any (n d : Int) (w : World) (hn1 : n ≤ 9223372036854775807) (hd1 : d ≤ 9223372036854775807) :
    Calls Tryd.prog 13 #[.int .i64 n, .int .i64 d] w fun e w' => e = .returned (tev (makeV n d)) ∧ Below w.heap.size w w' := by
  by_cases h0 : n < 0
  · have hs := Lib.hid (makeV_neg (n := n) (d := d) (.inl h0))
    go_enter Tryd.func13, Tryd.ntmps13
    go_wp2_with fail
    refine bodyPost_ret (v := .tuple #[.agg #[.int .i64 0, .int .i64 0], .int .i64 2]) (by simp [results, Tryd.results13, go_sem]) rfl ⟨by rw [hs.out], ?_⟩
    exact ba (br _) _
  by_cases h1 : d < 0
  · have hs := Lib.hid (makeV_neg (n := n) (d := d) (.inr h1))
    go_enter Tryd.func13, Tryd.ntmps13
    go_wp2_with fail
    refine bodyPost_ret (v := .tuple #[.agg #[.int .i64 0, .int .i64 0], .int .i64 2]) (by simp [results, Tryd.results13, go_sem]) rfl ⟨by rw [hs.out], ?_⟩
    exact ba (br _) _
  by_cases h2 : d = 0
  · have hs := Lib.hid (makeV_zero (n := n) (d := d) (by omega) h2)
    have hz : (d == 0) = true := by simp [h2]
    clear h2
    go_enter Tryd.func13, Tryd.ntmps13
    go_wp2_with fail
    refine bodyPost_ret (v := .tuple #[.agg #[.int .i64 0, .int .i64 0], .int .i64 5]) (by simp [results, Tryd.results13, go_sem]) rfl ⟨by rw [hs.out], ?_⟩
    exact ba (br _) _
  · have hs := Lib.hid (makeV_ok (n := n) (d := d) (by omega) (by omega))
    have hz : (d == 0) = false := by simp [h2]
    go_enter Tryd.func13, Tryd.ntmps13
    go_wp2_with fail
    refine (lowest_any n d _ (by omega) (by omega) (by omega) (by omega)).mono ?_
    rintro e w1 ⟨rfl, hb1⟩
    obtain ⟨hc1, hf1⟩ := bcell hb1
    go_wp2_with fail
    refine bodyPost_ret (v := tev (low n d)) (by simp [results, Tryd.results13, go_sem, hc1]) rfl ⟨by rw [hs.out], ?_⟩
    exact bs (bs (bl (ba (br _) _) hb1) (by simp) _) (by simp) _

set_option maxHeartbeats 1000000 in
theorem rmake_any (n d : Int) (w : World) (hn1 : n ≤ 9223372036854775807) (hd1 : d ≤ 9223372036854775807) :
    Calls Tryd.prog 14 #[.int .i64 n, .int .i64 d] w fun e w' => e = .returned (tev (makeV n d)) ∧ Below w.heap.size w w' := by
  by_cases h0 : n < 0
  · have hs := Lib.hid (makeV_neg (n := n) (d := d) (.inl h0))
    go_enter Tryd.func14, Tryd.ntmps14
    go_wp2_with fail
    refine bodyPost_ret (v := .tuple #[.agg #[.int .i64 0, .int .i64 0], .int .i64 2]) (by simp [results, Tryd.results14, go_sem]) rfl ⟨by rw [hs.out], ?_⟩
    exact ba (br _) _
  by_cases h1 : d < 0
  · have hs := Lib.hid (makeV_neg (n := n) (d := d) (.inr h1))
    go_enter Tryd.func14, Tryd.ntmps14
    go_wp2_with fail
    refine bodyPost_ret (v := .tuple #[.agg #[.int .i64 0, .int .i64 0], .int .i64 2]) (by simp [results, Tryd.results14, go_sem]) rfl ⟨by rw [hs.out], ?_⟩
    exact ba (br _) _
  by_cases h2 : d = 0
  · have hs := Lib.hid (makeV_zero (n := n) (d := d) (by omega) h2)
    have hz : (d == 0) = true := by simp [h2]
    clear h2
    go_enter Tryd.func14, Tryd.ntmps14
    go_wp2_with fail
    refine bodyPost_ret (v := .tuple #[.agg #[.int .i64 0, .int .i64 0], .int .i64 5]) (by simp [results, Tryd.results14, go_sem]) rfl ⟨by rw [hs.out], ?_⟩
    exact ba (br _) _
  · have hs := Lib.hid (makeV_ok (n := n) (d := d) (by omega) (by omega))
    have hz : (d == 0) = false := by simp [h2]
    go_enter Tryd.func14, Tryd.ntmps14
    go_wp2_with fail
    refine (of_any n d _ (by omega) (by omega) (by omega) (by omega)).mono ?_
    rintro e w1 ⟨rfl, hb1⟩
    obtain ⟨hc1, hf1⟩ := bcell hb1
    go_wp2_with fail
    refine bodyPost_ret (v := tev (low n d)) (by simp [results, Tryd.results14, go_sem, hc1]) rfl ⟨by rw [hs.out], ?_⟩
    exact bs (bs (bl (ba (br _) _) hb1) (by simp) _) (by simp) _


set_option maxHeartbeats 1000000 in
theorem t_any (n d : Int) (w : World) (hn : 0 ≤ n) (hn1 : n ≤ 1099511627776) (hd : 1 ≤ d) (hd1 : d ≤ 1099511627776) :
    Calls Tryd.prog 38 #[.int .i64 n, .int .i64 d] w fun e w' => e = .returned (tv (n / gcdI n d) (d / gcdI n d)) ∧ Below w.heap.size w w' := by
  have g1 := gcdI_pos n d hd
  have g2 := gcdI_le n d hd
  go_enter Tryd.func38, Tryd.ntmps38
  go_wp2
  go_loop [5, 6] (fun x y => ∃ p q : Int, 0 ≤ p ∧ p ≤ 1099511627776 ∧ 0 ≤ q ∧ q ≤ 1099511627776 ∧ x = .int .i64 p ∧ y = .int .i64 q ∧ Hid (gcdI p q = gcdI n d)) (fun _ y => (intOf y).toNat)
  case atStart => exact ⟨n, d, by omega, by omega, by omega, by omega, rfl, rfl, Lib.hid rfl⟩
  case round =>
    obtain ⟨p, q, hp, hp1, hq, hq1, rfl, rfl, hg⟩ := hrel
    by_cases h : 0 < q
    · have r0 := Int.emod_nonneg p (show q ≠ 0 by omega)
      have r1 := Int.emod_lt_of_pos p h
      have hm := Lib.hid (gcdI_mod p q hp (by omega))
      go_wp2
      go_round
      case rel => exact ⟨q, p % q, by omega, by omega, by omega, by omega, rfl, rfl, Lib.hid (hm.out.trans hg.out)⟩
      case measure => simp [intOf]; omega
    · have hq0 : q = 0 := by omega
      subst hq0
      have e := hg.out
      rw [gcdI_zero_right p hp] at e
      subst e
      clear hg
      go_wp2
      go_region
      go_wp2
      exact bodyPost_ret (v := tv (n / gcdI n d) (d / gcdI n d)) (by simp [results, Tryd.results38, go_sem]) rfl ⟨rfl, (ba (br _) _).drew⟩

set_option maxHeartbeats 1000000 in
theorem zero_any (w : World) : Calls Tryd.prog 39 #[] w fun e w' => e = .returned (tv 0 1) ∧ Below w.heap.size w w' := by
  go_enter Tryd.func39, Tryd.ntmps39
  go_wp2
  exact bodyPost_ret (v := tv 0 1) (by simp [results, Tryd.results39, go_sem]) rfl ⟨rfl, ba (br _) _⟩

/-- The sum of two times. -/
def addV (a b c d : Int) : Int × Int × Int := if chk2 a b c d = 0 then low (a * d + c * b) (b * d) else (0, 0, chk2 a b c d)
theorem addV_err {a b c d : Int} (h : chk2 a b c d ≠ 0) : addV a b c d = (0, 0, chk2 a b c d) := by unfold addV; rw [if_neg h]
theorem addV_ok {a b c d : Int} (h : chk2 a b c d = 0) : addV a b c d = low (a * d + c * b) (b * d) := by unfold addV; rw [if_pos h]

set_option maxHeartbeats 1000000 in
theorem radd_any (a b c d : Int) (w : World) :
    Calls Tryd.prog 19 #[tv a b, tv c d] w fun e w' => e = .returned (tev (addV a b c d)) ∧ Below w.heap.size w w' := by
  by_cases h : chk2 a b c d = 0
  · have v := bd_of (valid2_of h)
    obtain ⟨a0, a1, b0, b1, c0, c1, d0, d1, ad0, ad1, cb0, cb1, bd0, bd1⟩ := v
    have hs := Lib.hid (addV_ok h)
    have hne : (chk2 a b c d != 0) = false := by simp [h]
    clear h
    go_enter Tryd.func19, Tryd.ntmps19
    go_wp2_with fail
    refine (both_any a b c d _).mono ?_
    rintro e w1 ⟨rfl, hb1⟩
    obtain ⟨hc1, hf1⟩ := bcell hb1
    obtain ⟨z10, z11, z12⟩ := sz3 (show w.heap.size + 2 < w1.heap.size by have := hb1.size; simp at this; omega)
    go_wp2_with fail
    refine (of_any (a * d + c * b) (b * d) _ (by omega) (by omega) (by omega) (by omega)).mono ?_
    rintro e w2 ⟨rfl, hb2⟩
    obtain ⟨hc2, hf2⟩ := bcell hb2
    go_wp2_with fail
    refine bodyPost_ret (v := tev (low (a * d + c * b) (b * d))) (by simp [results, Tryd.results19, go_sem, hc1, hc2, z12]) rfl ⟨by rw [hs.out], ?_⟩
    exact bs (bs (bl (bl (ba (ba (ba (br _) _) _) _) hb1) hb2) (by simp; omega) _) (by simp; omega) _
  · have hs := Lib.hid (addV_err h)
    have hne : (chk2 a b c d != 0) = true := by simp [h]
    clear h
    go_enter Tryd.func19, Tryd.ntmps19
    go_wp2_with fail
    refine (both_any a b c d _).mono ?_
    rintro e w1 ⟨rfl, hb1⟩
    obtain ⟨hc1, hf1⟩ := bcell hb1
    go_wp2_with fail
    refine bodyPost_ret (v := .tuple #[.agg #[.int .i64 0, .int .i64 0], .int .i64 (chk2 a b c d)]) (by simp [results, Tryd.results19, go_sem, hc1]) rfl ⟨by rw [hs.out], ?_⟩
    exact bs (bs (bl (ba (ba (ba (br _) _) _) _) hb1) (by simp; omega) _) (by simp; omega) _

end Go.Proofs.YtjgkliiofechfaaDoor
