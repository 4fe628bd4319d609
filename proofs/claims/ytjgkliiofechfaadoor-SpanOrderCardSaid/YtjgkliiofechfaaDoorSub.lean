/- Contracts of the difference and the order of two times, of the program and of the reference. -/
import Derived.Test.YtjgkliiofechfaaDoorCheck
import Derived.WalkSmall
namespace Go.Proofs.YtjgkliiofechfaaDoor
open Go.RowKit

/-- Products of parts of valid times stay small. -/
theorem mul_bd {a b A B : Int} (h0 : 0 ≤ a) (h1 : a ≤ A) (h2 : 0 ≤ b) (h3 : b ≤ B) : 0 ≤ a * b ∧ a * b ≤ A * B :=
  ⟨Int.mul_nonneg h0 h2, Int.mul_le_mul h1 h3 h2 (by omega)⟩

theorem mul_pos1 {a b : Int} (h0 : 1 ≤ a) (h2 : 1 ≤ b) : 1 ≤ a * b := by
  have := Int.mul_pos (show 0 < a by omega) (show 0 < b by omega); omega

structure Valid2 (a b c d : Int) : Prop where
  l : Valid a b
  r : Valid c d

theorem valid2_of {a b c d : Int} (h : chk2 a b c d = 0) : Valid2 a b c d := by
  unfold chk2 at h
  split at h
  · exact ⟨valid_of_chk (by assumption), valid_of_chk h⟩
  · omega

theorem chk2_of {a b c d : Int} (h : Valid a b) (k : Valid c d) : chk2 a b c d = 0 := by
  unfold chk2; rw [if_pos (chk_valid h)]; exact chk_valid k

/-- The bounds that the walks of two valid times want. -/
structure Bd (a b c d : Int) : Prop where
  a0 : 0 ≤ a
  a1 : a ≤ 1099511627776
  b0 : 1 ≤ b
  b1 : b ≤ 1048576
  c0 : 0 ≤ c
  c1 : c ≤ 1099511627776
  d0 : 1 ≤ d
  d1 : d ≤ 1048576
  ad0 : 0 ≤ a * d
  ad1 : a * d ≤ 1152921504606846976
  cb0 : 0 ≤ c * b
  cb1 : c * b ≤ 1152921504606846976
  bd0 : 1 ≤ b * d
  bd1 : b * d ≤ 1099511627776

theorem bd_of {a b c d : Int} (h : Valid2 a b c d) : Bd a b c d := by
  obtain ⟨⟨a0, a1, b0, b1, _⟩, ⟨c0, c1, d0, d1, _⟩⟩ := h
  have e1 := mul_bd a0 a1 (show 0 ≤ d by omega) d1
  have e2 := mul_bd c0 c1 (show 0 ≤ b by omega) b1
  have e3 := mul_bd (show 0 ≤ b by omega) b1 (show 0 ≤ d by omega) d1
  have e4 := mul_pos1 b0 d0
  exact ⟨a0, a1, b0, b1, c0, c1, d0, d1, e1.1, e1.2, e2.1, e2.2, e4, e3.2⟩

/-- The difference of two times. -/
def subV (a b c d : Int) : Int × Int × Int := if chk2 a b c d = 0 then (if a * d < c * b then (0, 0, 2) else low (a * d - c * b) (b * d)) else (0, 0, chk2 a b c d)

/-- The order of two times. -/
def cmpV (a b c d : Int) : Int := if chk2 a b c d = 0 then (if a * d < c * b then -1 else if c * b < a * d then 1 else 0) else 0

theorem subV_err {a b c d : Int} (h : chk2 a b c d ≠ 0) : subV a b c d = (0, 0, chk2 a b c d) := by unfold subV; rw [if_neg h]
theorem subV_less {a b c d : Int} (h : chk2 a b c d = 0) (k : a * d < c * b) : subV a b c d = (0, 0, 2) := by unfold subV; rw [if_pos h, if_pos k]
theorem subV_ok {a b c d : Int} (h : chk2 a b c d = 0) (k : ¬ a * d < c * b) : subV a b c d = low (a * d - c * b) (b * d) := by unfold subV; rw [if_pos h, if_neg k]

set_option maxHeartbeats 400000 in
theorem compare_lt (a b c d : Int) (w : World) (v : Bd a b c d) (h : a * d < c * b) :
    Calls Tryd.prog 51 #[tv a b, tv c d] w fun e w' => e = .returned (.int .i64 (-1)) ∧ Below w.heap.size w w' := by
  obtain ⟨a0, a1, b0, b1, c0, c1, d0, d1, ad0, ad1, cb0, cb1, bd0, bd1⟩ := v
  have w1 : IntKind.i64.wrap (a * d) = a * d := IntWalk.i64_in _ (by omega)
  have w2 : IntKind.i64.wrap (c * b) = c * b := IntWalk.i64_in _ (by omega)
  go_enter Tryd.func51, Tryd.ntmps51
  go_wp2_with fail
  go_quiet (fail)
  clear w1 w2
  go_wp2_with fail
  go_ret
  exact ⟨rfl, below_drewN (((Below.refl _ _).alloc (Nat.le_refl _) _).alloc (by simp) _) _⟩

set_option maxHeartbeats 400000 in
theorem compare_gt (a b c d : Int) (w : World) (v : Bd a b c d) (h : c * b < a * d) :
    Calls Tryd.prog 51 #[tv a b, tv c d] w fun e w' => e = .returned (.int .i64 1) ∧ Below w.heap.size w w' := by
  obtain ⟨a0, a1, b0, b1, c0, c1, d0, d1, ad0, ad1, cb0, cb1, bd0, bd1⟩ := v
  have w1 : IntKind.i64.wrap (a * d) = a * d := IntWalk.i64_in _ (by omega)
  have w2 : IntKind.i64.wrap (c * b) = c * b := IntWalk.i64_in _ (by omega)
  go_enter Tryd.func51, Tryd.ntmps51
  go_wp2_with fail
  go_quiet (fail)
  clear w1 w2
  go_wp2_with fail
  go_ret
  exact ⟨rfl, below_drewN (((Below.refl _ _).alloc (Nat.le_refl _) _).alloc (by simp) _) _⟩

set_option maxHeartbeats 400000 in
theorem compare_eq (a b c d : Int) (w : World) (v : Bd a b c d) (h1 : a * d ≤ c * b) (h2 : c * b ≤ a * d) :
    Calls Tryd.prog 51 #[tv a b, tv c d] w fun e w' => e = .returned (.int .i64 0) ∧ Below w.heap.size w w' := by
  obtain ⟨a0, a1, b0, b1, c0, c1, d0, d1, ad0, ad1, cb0, cb1, bd0, bd1⟩ := v
  have w1 : IntKind.i64.wrap (a * d) = a * d := IntWalk.i64_in _ (by omega)
  have w2 : IntKind.i64.wrap (c * b) = c * b := IntWalk.i64_in _ (by omega)
  go_enter Tryd.func51, Tryd.ntmps51
  go_wp2_with fail
  go_quiet (fail)
  clear w1 w2
  go_wp2_with fail
  go_ret
  exact ⟨rfl, below_drewN (((Below.refl _ _).alloc (Nat.le_refl _) _).alloc (by simp) _) _⟩

theorem compare_any (a b c d : Int) (w : World) (h : chk2 a b c d = 0) :
    Calls Tryd.prog 51 #[tv a b, tv c d] w fun e w' => e = .returned (.int .i64 (cmpV a b c d)) ∧ Below w.heap.size w w' := by
  have v := bd_of (valid2_of h)
  unfold cmpV
  rw [if_pos h]
  by_cases h1 : a * d < c * b
  · rw [if_pos h1]; exact compare_lt a b c d w v h1
  · rw [if_neg h1]
    by_cases h2 : c * b < a * d
    · rw [if_pos h2]; exact compare_gt a b c d w v h2
    · rw [if_neg h2]; exact compare_eq a b c d w v (by omega) (by omega)

/-- Where the first time is not less, the order is not below 0. -/
theorem compare_ge (a b c d : Int) (w : World) (v : Bd a b c d) (h : ¬ a * d < c * b) :
    Calls Tryd.prog 51 #[tv a b, tv c d] w fun e w' => ∃ x : Int, 0 ≤ x ∧ e = .returned (.int .i64 x) ∧ Below w.heap.size w w' := by
  by_cases h2 : c * b < a * d
  · exact (compare_gt a b c d w v h2).mono fun _ _ ⟨he, hb⟩ => ⟨1, by omega, he, hb⟩
  · exact (compare_eq a b c d w v (by omega) (by omega)).mono fun _ _ ⟨he, hb⟩ => ⟨0, by omega, he, hb⟩

set_option maxHeartbeats 1000000 in
theorem sub_any (a b c d : Int) (w : World) :
    Calls Tryd.prog 20 #[tv a b, tv c d] w fun e w' => e = .returned (tev (subV a b c d)) ∧ Below w.heap.size w w' := by
  by_cases h : chk2 a b c d = 0
  · have v := bd_of (valid2_of h)
    by_cases k : a * d < c * b
    · have hs := Lib.hid (subV_less h k)
      have hne : (chk2 a b c d != 0) = false := by simp [h]
      clear h
      go_enter Tryd.func20, Tryd.ntmps20
      go_wp2_with fail
      refine (checkBoth_any a b c d _).mono ?_
      rintro e w1 ⟨rfl, hb1⟩
      obtain ⟨hc1, hf1⟩ := bcell hb1
      obtain ⟨z10, z11, z12⟩ := sz3 (show w.heap.size + 2 < w1.heap.size by have := hb1.size; simp at this; omega)
      go_wp2_with fail
      refine (compare_lt a b c d _ v k).mono ?_
      rintro e w2 ⟨rfl, hb2⟩
      obtain ⟨hc2, hf2⟩ := bcell hb2
      go_wp2_with fail
      refine bodyPost_ret (v := .tuple #[.agg #[.int .i64 0, .int .i64 0], .int .i64 2]) (by simp [results, Tryd.results20, go_sem, hc1, hc2, z12]) rfl ⟨by rw [hs.out], ?_⟩
      exact bs (bs (bl (bl (ba (ba (ba (br _) _) _) _) hb1) hb2) (by simp; omega) _) (by simp; omega) _
    · have hs := Lib.hid (subV_ok h k)
      have hne : (chk2 a b c d != 0) = false := by simp [h]
      clear h
      obtain ⟨a0, a1, b0, b1, c0, c1, d0, d1, ad0, ad1, cb0, cb1, bd0, bd1⟩ := id v
      go_enter Tryd.func20, Tryd.ntmps20
      go_wp2_with fail
      refine (checkBoth_any a b c d _).mono ?_
      rintro e w1 ⟨rfl, hb1⟩
      obtain ⟨hc1, hf1⟩ := bcell hb1
      obtain ⟨z10, z11, z12⟩ := sz3 (show w.heap.size + 2 < w1.heap.size by have := hb1.size; simp at this; omega)
      go_wp2_with fail
      refine (compare_ge a b c d _ v (by omega)).mono ?_
      rintro e w2 ⟨x, hx, rfl, hb2⟩
      obtain ⟨hc2, hf2⟩ := bcell hb2
      obtain ⟨z20, z21, z22⟩ := sz3 (show w.heap.size + 2 < w2.heap.size by have := hb2.size; omega)
      go_wp2_with fail
      refine (lowest_any (a * d - c * b) (b * d) _ (by omega) (by omega) (by omega) (by omega)).mono ?_
      rintro e w3 ⟨rfl, hb3⟩
      obtain ⟨hc3, hf3⟩ := bcell hb3
      obtain ⟨z30, z31, z32⟩ := sz3 (show w.heap.size + 2 < w3.heap.size by have := hb3.size; omega)
      go_wp2_with fail
      refine bodyPost_ret (v := tev (low (a * d - c * b) (b * d))) (by simp [results, Tryd.results20, go_sem, hc1, hc2, z12, hc3, z22]) rfl ⟨by rw [hs.out], ?_⟩
      exact bs (bs (bl (bl (bl (ba (ba (ba (br _) _) _) _) hb1) hb2) hb3) (by simp; omega) _) (by simp; omega) _
  · have hs := Lib.hid (subV_err h)
    have hne : (chk2 a b c d != 0) = true := by simp [h]
    clear h
    go_enter Tryd.func20, Tryd.ntmps20
    go_wp2_with fail
    refine (checkBoth_any a b c d _).mono ?_
    rintro e w1 ⟨rfl, hb1⟩
    obtain ⟨hc1, hf1⟩ := bcell hb1
    obtain ⟨z10, z11, z12⟩ := sz3 (show w.heap.size + 2 < w1.heap.size by have := hb1.size; simp at this; omega)
    go_wp2_with fail
    refine bodyPost_ret (v := .tuple #[.agg #[.int .i64 0, .int .i64 0], .int .i64 (chk2 a b c d)]) (by simp [results, Tryd.results20, go_sem, hc1]) rfl ⟨by rw [hs.out], ?_⟩
    exact bs (bs (bl (ba (ba (ba (br _) _) _) _) hb1) (by simp; omega) _) (by simp; omega) _

set_option maxHeartbeats 1000000 in
theorem rsub_any (a b c d : Int) (w : World) :
    Calls Tryd.prog 21 #[tv a b, tv c d] w fun e w' => e = .returned (tev (subV a b c d)) ∧ Below w.heap.size w w' := by
  by_cases h : chk2 a b c d = 0
  · have v := bd_of (valid2_of h)
    obtain ⟨a0, a1, b0, b1, c0, c1, d0, d1, ad0, ad1, cb0, cb1, bd0, bd1⟩ := v
    by_cases k : a * d < c * b
    · have hs := Lib.hid (subV_less h k)
      have hne : (chk2 a b c d != 0) = false := by simp [h]
      clear h
      go_enter Tryd.func21, Tryd.ntmps21
      go_wp2_with fail
      refine (both_any a b c d _).mono ?_
      rintro e w1 ⟨rfl, hb1⟩
      obtain ⟨hc1, hf1⟩ := bcell hb1
      obtain ⟨z10, z11, z12⟩ := sz3 (show w.heap.size + 2 < w1.heap.size by have := hb1.size; simp at this; omega)
      go_wp2_with fail
      refine bodyPost_ret (v := .tuple #[.agg #[.int .i64 0, .int .i64 0], .int .i64 2]) (by simp [results, Tryd.results21, go_sem, hc1]) rfl ⟨by rw [hs.out], ?_⟩
      exact bs (bs (bl (ba (ba (ba (br _) _) _) _) hb1) (by simp; omega) _) (by simp; omega) _
    · have hs := Lib.hid (subV_ok h k)
      have hne : (chk2 a b c d != 0) = false := by simp [h]
      clear h
      go_enter Tryd.func21, Tryd.ntmps21
      go_wp2_with fail
      refine (both_any a b c d _).mono ?_
      rintro e w1 ⟨rfl, hb1⟩
      obtain ⟨hc1, hf1⟩ := bcell hb1
      obtain ⟨z10, z11, z12⟩ := sz3 (show w.heap.size + 2 < w1.heap.size by have := hb1.size; simp at this; omega)
      go_wp2_with fail
      refine (of_any (a * d - c * b) (b * d) _ (by omega) (by omega) (by omega) (by omega)).mono ?_
      rintro e w2 ⟨rfl, hb2⟩
      obtain ⟨hc2, hf2⟩ := bcell hb2
      obtain ⟨z20, z21, z22⟩ := sz3 (show w.heap.size + 2 < w2.heap.size by have := hb2.size; omega)
      go_wp2_with fail
      refine bodyPost_ret (v := tev (low (a * d - c * b) (b * d))) (by simp [results, Tryd.results21, go_sem, hc1, hc2, z12]) rfl ⟨by rw [hs.out], ?_⟩
      exact bs (bs (bl (bl (ba (ba (ba (br _) _) _) _) hb1) hb2) (by simp; omega) _) (by simp; omega) _
  · have hs := Lib.hid (subV_err h)
    have hne : (chk2 a b c d != 0) = true := by simp [h]
    clear h
    go_enter Tryd.func21, Tryd.ntmps21
    go_wp2_with fail
    refine (both_any a b c d _).mono ?_
    rintro e w1 ⟨rfl, hb1⟩
    obtain ⟨hc1, hf1⟩ := bcell hb1
    obtain ⟨z10, z11, z12⟩ := sz3 (show w.heap.size + 2 < w1.heap.size by have := hb1.size; simp at this; omega)
    go_wp2_with fail
    refine bodyPost_ret (v := .tuple #[.agg #[.int .i64 0, .int .i64 0], .int .i64 (chk2 a b c d)]) (by simp [results, Tryd.results21, go_sem, hc1]) rfl ⟨by rw [hs.out], ?_⟩
    exact bs (bs (bl (ba (ba (ba (br _) _) _) _) hb1) (by simp; omega) _) (by simp; omega) _

end Go.Proofs.YtjgkliiofechfaaDoor
