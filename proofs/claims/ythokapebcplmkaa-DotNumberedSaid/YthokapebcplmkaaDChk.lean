/- The program's checkSign and Check. -/
import Derived.Test.YthokapebcplmkaaDClos
namespace Go.Proofs.Ythokapebcplmkaa
open Go.RowKit

set_option maxRecDepth 100000 in
set_option maxHeartbeats 4000000 in
theorem pcsgn_any (q : Q4) (s b : Sg) (w : World) : Calls Try.prog 53 #[mv q, sgv s, sgv b] w fun e w' => e = .returned (.int .i64 (sgnE q b s)) ∧ Below w.heap.size w w' := by
  have KM := Lib.hid ((Cell4.made w q 23).later (w_alloc (w_alloc (w_refl _) (sgO s)) (sgO b)))
  have SG := Lib.hid ((sg_new (w.alloc (mO q)) s).al (sgO b)).sg
  have BG := Lib.hid (sg_new ((w.alloc (mO q)).alloc (sgO s)) b).sg
  have B0 := Lib.hid (w_alloc (w_alloc (w_alloc (w_refl w) (mO q)) (sgO s)) (sgO b))
  rw [World.size_alloc, World.size_alloc] at BG
  rw [World.size_alloc] at SG
  have MN := Lib.hid (fun W => pmean_any q b W)
  by_cases hs : s.kind = 1 ∨ s.kind = 2
  · have hE : sgnE q b s = if 1 ≤ s.val ∧ s.val ≤ 8 then 0 else 2 := if_pos hs
    rw [hE]
    clear hE MN BG
    have ways : s.val < 1 ∨ (¬ s.val < 1 ∧ 8 < s.val) ∨ (¬ s.val < 1 ∧ ¬ 8 < s.val) := by omega
    rcases ways with h | ⟨h, h2⟩ | ⟨h, h2⟩
    · rw [if_neg (by omega)]
      rcases hs with hk | hk
      all_goals
        have hk1 : (s.kind == 1) = decide (s.kind = 1) := rfl
        rw [hk] at hk1
        obtain ⟨q1, q2, q3, q4⟩ := q
        go_enter Try.func53, Try.ntmps53
        go_upto_region 1 with (first | (refine wl_box (x := .tmp 1) s (by kernel_rfl) ?_) | (refine wl_box (x := .tmp 2) b (by kernel_rfl) ?_) | fail)
        generalize World.alloc (World.alloc (World.alloc w (.cells #[.int .i64 q1, .int .i64 q2, .int .i64 q3, .int .i64 q4] 23)) (sgO s)) (sgO b) = y at *
        obtain ⟨e0, e1, _, _, _, _⟩ := SG.out
        rw [hk] at e0
        go_wp2_with fail
        go_ret
        exact ⟨rfl, B0.out⟩
    · rw [if_neg (by omega)]
      rcases hs with hk | hk
      all_goals
        obtain ⟨q1, q2, q3, q4⟩ := q
        go_enter Try.func53, Try.ntmps53
        go_upto_region 1 with (first | (refine wl_box (x := .tmp 1) s (by kernel_rfl) ?_) | (refine wl_box (x := .tmp 2) b (by kernel_rfl) ?_) | fail)
        generalize World.alloc (World.alloc (World.alloc w (.cells #[.int .i64 q1, .int .i64 q2, .int .i64 q3, .int .i64 q4] 23)) (sgO s)) (sgO b) = y at *
        obtain ⟨e0, e1, _, _, _, _⟩ := SG.out
        rw [hk] at e0
        go_wp2_with fail
        go_ret
        exact ⟨rfl, B0.out⟩
    · rw [if_pos (by omega)]
      rcases hs with hk | hk
      all_goals
        obtain ⟨q1, q2, q3, q4⟩ := q
        go_enter Try.func53, Try.ntmps53
        go_upto_region 1 with (first | (refine wl_box (x := .tmp 1) s (by kernel_rfl) ?_) | (refine wl_box (x := .tmp 2) b (by kernel_rfl) ?_) | fail)
        generalize World.alloc (World.alloc (World.alloc w (.cells #[.int .i64 q1, .int .i64 q2, .int .i64 q3, .int .i64 q4] 23)) (sgO s)) (sgO b) = y at *
        obtain ⟨e0, e1, _, _, _, _⟩ := SG.out
        rw [hk] at e0
        go_wp2_with fail
        go_ret
        exact ⟨rfl, B0.out⟩
  · have hk1 : (s.kind == 1) = false := by simp; omega
    have hk2 : (s.kind == 2) = false := by simp; omega
    by_cases h3 : s.kind = 3
    · have hE : sgnE q b s = if (mns q b).length = 0 then 13 else 0 := (if_neg hs).trans (if_pos h3)
      rw [hE]
      clear hE hs hk1 hk2
      generalize mns q b = M at *
      by_cases hm : M.length = 0
      · rw [if_pos hm]
        rw [hm] at MN
        clear hm
        obtain ⟨q1, q2, q3, q4⟩ := q
        go_enter Try.func53, Try.ntmps53
        go_upto_region 1 with (first | (refine wl_box (x := .tmp 1) s (by kernel_rfl) ?_) | (refine wl_box (x := .tmp 2) b (by kernel_rfl) ?_) | fail)
        generalize World.alloc (World.alloc (World.alloc w (.cells #[.int .i64 q1, .int .i64 q2, .int .i64 q3, .int .i64 q4] 23)) (sgO s)) (sgO b) = y at *
        obtain ⟨e0, e1, _, _, _, _⟩ := SG.out
        obtain ⟨_, k0, k1, k2, k3, _⟩ := KM.out
        simp only at k0 k1 k2 k3
        rw [h3] at e0
        go_wp2_with (first | (refine wl_load (w.heap.size + 1 + 1) 0 b (by kernel_rfl) BG.out ?_) | fail)
        refine (MN.out _).mono ?_
        rintro e w1 ⟨v, rfl, ho⟩
        obtain ⟨p1, c1, rfl⟩ := ho.val
        have B1 := Lib.hid (w_below B0.out ho.bel)
        clear ho
        go_wp2_with fail
        go_ret
        exact ⟨rfl, B1.out⟩
      · have hm1 : ((M.length : Int) == 0) = false := by simp; exact fun e => hm (by rw [e]; rfl)
        rw [if_neg hm]
        generalize ints M = ZZ at *
        generalize M.length = ml at *
        clear hm
        obtain ⟨q1, q2, q3, q4⟩ := q
        go_enter Try.func53, Try.ntmps53
        go_upto_region 1 with (first | (refine wl_box (x := .tmp 1) s (by kernel_rfl) ?_) | (refine wl_box (x := .tmp 2) b (by kernel_rfl) ?_) | fail)
        generalize World.alloc (World.alloc (World.alloc w (.cells #[.int .i64 q1, .int .i64 q2, .int .i64 q3, .int .i64 q4] 23)) (sgO s)) (sgO b) = y at *
        obtain ⟨e0, e1, _, _, _, _⟩ := SG.out
        obtain ⟨_, k0, k1, k2, k3, _⟩ := KM.out
        simp only at k0 k1 k2 k3
        rw [h3] at e0
        go_wp2_with (first | (refine wl_load (w.heap.size + 1 + 1) 0 b (by kernel_rfl) BG.out ?_) | fail)
        refine (MN.out _).mono ?_
        rintro e w1 ⟨v, rfl, ho⟩
        obtain ⟨p1, c1, rfl⟩ := ho.val
        have B1 := Lib.hid (w_below B0.out ho.bel)
        clear ho
        go_wp2_with fail
        go_ret
        exact ⟨rfl, B1.out⟩
    · have hE : sgnE q b s = 8 := (if_neg hs).trans (if_neg h3)
      have hk3 : (s.kind == 3) = false := by simp; exact h3
      rw [hE]
      clear hE hs h3 MN
      obtain ⟨q1, q2, q3, q4⟩ := q
      go_enter Try.func53, Try.ntmps53
      go_upto_region 1 with (first | (refine wl_box (x := .tmp 1) s (by kernel_rfl) ?_) | (refine wl_box (x := .tmp 2) b (by kernel_rfl) ?_) | fail)
      generalize World.alloc (World.alloc (World.alloc w (.cells #[.int .i64 q1, .int .i64 q2, .int .i64 q3, .int .i64 q4] 23)) (sgO s)) (sgO b) = y at *
      obtain ⟨e0, e1, _, _, _, _⟩ := SG.out
      go_wp2_with fail
      go_ret
      exact ⟨rfl, B0.out⟩

end Go.Proofs.Ythokapebcplmkaa
