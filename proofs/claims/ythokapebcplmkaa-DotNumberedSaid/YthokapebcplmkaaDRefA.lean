/- The reference's meanings of a dot. -/
import Derived.Test.YthokapebcplmkaaDMean
namespace Go.Proofs.Ythokapebcplmkaa
open Go.RowKit

theorem own_p2 {q : Q4} {v : Int} (h : valE q v = 0) (k : pI q v = 2) : ownM q v = 0 := by
  unfold ownM parV; rw [if_pos h, if_neg (by rw [k]; decide)]
theorem own_p3 {q : Q4} {v : Int} (h : valE q v = 0) (k : pI q v = 3) : ownM q v = v := by
  unfold ownM parV; rw [if_pos h, if_pos k]

set_option maxRecDepth 100000 in
set_option maxHeartbeats 4000000 in
theorem rmean_any (q : Q4) (hm : okM q) (s : Sg) (hs : s.kind = 1 ∨ s.kind = 2) (hv : 1 ≤ s.val ∧ s.val ≤ 8) (hn : (mns q s).length ≠ 0) (w : World) : Calls Try.prog 46 #[mv q, sgv s] w fun e w' => ∃ v, e = .returned v ∧ OwnL w w' 3 1 v (mns q s).length (ints (mns q s)) := by
  have hV := valE_ok hm hv
  have KM := Lib.hid ((Cell4.made w q 23).later (w_alloc (w_refl _) (sgO s)))
  have SG := Lib.hid (sg_new (w.alloc (mO q)) s).sg
  have B0 := Lib.hid (w_alloc (w_alloc (w_refl w) (mO q)) (sgO s))
  rw [World.size_alloc] at SG
  have C1 := Lib.hid (fun W => rp_any q s.val hv W)
  have C2 := Lib.hid (fun W => rabove_any q s.val W)
  have v0 : ¬ s.val = 0 := by omega
  by_cases hk : s.kind = 1
  · have hk1 : (s.kind == 2) = false := by rw [hk]; rfl
    cases hc : s.col with
    | true =>
      have hcc := hc
      rw [mns_col (q := q) hk hc]
      clear hk C1 hs hn hV hv v0
      generalize aboV q s.val = ab at *
      generalize valE q s.val = er at *
      generalize pI q s.val = pr at *
      obtain ⟨q1, q2, q3, q4⟩ := q
      go_enter Try.func46, Try.ntmps46
      go_upto_region 1 with (first | (refine wl_box s (by kernel_rfl) ?_) | fail)
      generalize World.alloc (World.alloc w (.cells #[.int .i64 q1, .int .i64 q2, .int .i64 q3, .int .i64 q4] 23)) (sgO s) = y at *
      obtain ⟨_, k0, k1, k2, k3, _⟩ := KM.out
      obtain ⟨e0, e1, _, _, e4, _⟩ := SG.out
      simp only at k0 k1 k2 k3
      go_wp2_with fail
      refine (C2.out _).mono ?_
      rintro e w1 ⟨rfl, hb⟩
      have B1 := Lib.hid (w_below B0.out hb)
      have KM1 := Lib.hid (KM.out.later hb)
      have SG1 := Lib.hid (SG.out.later hb)
      clear hb e0 e1 e4 k0 k1 k2 k3 KM SG B0 C2
      obtain ⟨_, k0, k1, k2, k3, _⟩ := KM1.out
      obtain ⟨e0, e1, _, _, e4, _⟩ := SG1.out
      simp only at k0 k1 k2 k3
      rw [hcc] at e4
      have BB := B1
      have HO := Lib.hid (show OwnL w (w1.alloc (.cells (ints [0]).toArray 3)) 3 1 (.slice (some ⟨w1.heap.size, 0, none⟩) 1 1) 1 (ints [0]) from ⟨w_alloc BB.out _, lit_own w1 [0] _ BB.out.size (show 1 ≤ maxLen by decide)⟩)
      go_wp2_with fail
      go_ret
      exact ⟨_, rfl, HO.out⟩
    | false =>
      have hcc := hc
      rcases pI_two hm s.val with hp | hp
      · have hp1 : (pI q s.val == 2) = true := by simp [hp]
        have ho := own_p2 hV hp
        by_cases ha : aboV q s.val = 0
        · have ha1 : (aboV q s.val == 0) = true := by simp [ha]
          rw [show mns q s = [0] by unfold mns; rw [if_pos hk, if_neg (by rw [hc]; decide), if_pos ha, ho]]
          clear hk ha hp ho hs hn hV hv v0
          generalize aboV q s.val = ab at *
          generalize valE q s.val = er at *
          generalize pI q s.val = pr at *
          obtain ⟨q1, q2, q3, q4⟩ := q
          go_enter Try.func46, Try.ntmps46
          go_upto_region 1 with (first | (refine wl_box s (by kernel_rfl) ?_) | fail)
          generalize World.alloc (World.alloc w (.cells #[.int .i64 q1, .int .i64 q2, .int .i64 q3, .int .i64 q4] 23)) (sgO s) = y at *
          obtain ⟨_, k0, k1, k2, k3, _⟩ := KM.out
          obtain ⟨e0, e1, _, _, e4, _⟩ := SG.out
          simp only at k0 k1 k2 k3
          go_wp2_with fail
          refine (C2.out _).mono ?_
          rintro e w1 ⟨rfl, hb⟩
          have B1 := Lib.hid (w_below B0.out hb)
          have KM1 := Lib.hid (KM.out.later hb)
          have SG1 := Lib.hid (SG.out.later hb)
          clear hb e0 e1 e4 k0 k1 k2 k3 KM SG B0 C2
          obtain ⟨_, k0, k1, k2, k3, _⟩ := KM1.out
          obtain ⟨e0, e1, _, _, e4, _⟩ := SG1.out
          simp only at k0 k1 k2 k3
          rw [hcc] at e4
          go_wp2_with fail
          refine (C1.out _).mono ?_
          rintro e w2 ⟨rfl, hb⟩
          have BB := Lib.hid (w_below B1.out hb)
          have HO := Lib.hid (show OwnL w (w2.alloc (.cells (ints [0]).toArray 3)) 3 1 (.slice (some ⟨w2.heap.size, 0, none⟩) 1 1) 1 (ints [0]) from ⟨w_alloc BB.out _, lit_own w2 [0] _ BB.out.size (show 1 ≤ maxLen by decide)⟩)
          go_wp2_with fail
          go_ret
          exact ⟨_, rfl, HO.out⟩
        · have ha1 : (aboV q s.val == 0) = false := by simp [ha]
          rw [show mns q s = [0, aboV q s.val] by unfold mns; rw [if_pos hk, if_neg (by rw [hc]; decide), if_neg ha, if_pos ho]]
          clear hk ha hp ho hs hn hV hv v0
          generalize aboV q s.val = ab at *
          generalize valE q s.val = er at *
          generalize pI q s.val = pr at *
          obtain ⟨q1, q2, q3, q4⟩ := q
          go_enter Try.func46, Try.ntmps46
          go_upto_region 1 with (first | (refine wl_box s (by kernel_rfl) ?_) | fail)
          generalize World.alloc (World.alloc w (.cells #[.int .i64 q1, .int .i64 q2, .int .i64 q3, .int .i64 q4] 23)) (sgO s) = y at *
          obtain ⟨_, k0, k1, k2, k3, _⟩ := KM.out
          obtain ⟨e0, e1, _, _, e4, _⟩ := SG.out
          simp only at k0 k1 k2 k3
          go_wp2_with fail
          refine (C2.out _).mono ?_
          rintro e w1 ⟨rfl, hb⟩
          have B1 := Lib.hid (w_below B0.out hb)
          have KM1 := Lib.hid (KM.out.later hb)
          have SG1 := Lib.hid (SG.out.later hb)
          clear hb e0 e1 e4 k0 k1 k2 k3 KM SG B0 C2
          obtain ⟨_, k0, k1, k2, k3, _⟩ := KM1.out
          obtain ⟨e0, e1, _, _, e4, _⟩ := SG1.out
          simp only at k0 k1 k2 k3
          rw [hcc] at e4
          go_wp2_with fail
          refine (C1.out _).mono ?_
          rintro e w2 ⟨rfl, hb⟩
          have B2 := Lib.hid (w_below B1.out hb)
          have KM2 := Lib.hid (KM1.out.later hb)
          have SG2 := Lib.hid (SG1.out.later hb)
          clear hb e0 e1 e4 k0 k1 k2 k3 KM1 SG1 B1
          obtain ⟨_, k0, k1, k2, k3, _⟩ := KM2.out
          obtain ⟨e0, e1, _, _, e4, _⟩ := SG2.out
          simp only at k0 k1 k2 k3
          go_wp2_with fail
          refine (C1.out _).mono ?_
          rintro e w3 ⟨rfl, hb⟩
          have BB := Lib.hid (w_below B2.out hb)
          have HO := Lib.hid (show OwnL w (w3.alloc (.cells (ints [0, ab]).toArray 3)) 3 1 (.slice (some ⟨w3.heap.size, 0, none⟩) 2 2) 2 (ints [0, ab]) from ⟨w_alloc BB.out _, lit_own w3 [0, ab] _ BB.out.size (show 2 ≤ maxLen by decide)⟩)
          go_wp2_with fail
          go_ret
          exact ⟨_, rfl, HO.out⟩
      · have hp1 : (pI q s.val == 2) = false := by simp [hp]
        have ho := own_p3 hV hp
        by_cases ha : aboV q s.val = 0
        · have ha1 : (aboV q s.val == 0) = true := by simp [ha]
          rw [show mns q s = [s.val] by unfold mns; rw [if_pos hk, if_neg (by rw [hc]; decide), if_pos ha, ho]]
          clear hk ha hp ho hs hn hV hv v0
          generalize aboV q s.val = ab at *
          generalize valE q s.val = er at *
          generalize pI q s.val = pr at *
          obtain ⟨q1, q2, q3, q4⟩ := q
          go_enter Try.func46, Try.ntmps46
          go_upto_region 1 with (first | (refine wl_box s (by kernel_rfl) ?_) | fail)
          generalize World.alloc (World.alloc w (.cells #[.int .i64 q1, .int .i64 q2, .int .i64 q3, .int .i64 q4] 23)) (sgO s) = y at *
          obtain ⟨_, k0, k1, k2, k3, _⟩ := KM.out
          obtain ⟨e0, e1, _, _, e4, _⟩ := SG.out
          simp only at k0 k1 k2 k3
          go_wp2_with fail
          refine (C2.out _).mono ?_
          rintro e w1 ⟨rfl, hb⟩
          have B1 := Lib.hid (w_below B0.out hb)
          have KM1 := Lib.hid (KM.out.later hb)
          have SG1 := Lib.hid (SG.out.later hb)
          clear hb e0 e1 e4 k0 k1 k2 k3 KM SG B0 C2
          obtain ⟨_, k0, k1, k2, k3, _⟩ := KM1.out
          obtain ⟨e0, e1, _, _, e4, _⟩ := SG1.out
          simp only at k0 k1 k2 k3
          rw [hcc] at e4
          go_wp2_with fail
          refine (C1.out _).mono ?_
          rintro e w2 ⟨rfl, hb⟩
          have B2 := Lib.hid (w_below B1.out hb)
          have KM2 := Lib.hid (KM1.out.later hb)
          have SG2 := Lib.hid (SG1.out.later hb)
          clear hb e0 e1 e4 k0 k1 k2 k3 KM1 SG1 B1
          obtain ⟨_, k0, k1, k2, k3, _⟩ := KM2.out
          obtain ⟨e0, e1, _, _, e4, _⟩ := SG2.out
          simp only at k0 k1 k2 k3
          go_wp2_with fail
          refine (C1.out _).mono ?_
          rintro e w3 ⟨rfl, hb⟩
          have B3 := Lib.hid (w_below B2.out hb)
          have KM3 := Lib.hid (KM2.out.later hb)
          have SG3 := Lib.hid (SG2.out.later hb)
          clear hb e0 e1 e4 k0 k1 k2 k3 KM2 SG2 B2
          obtain ⟨_, k0, k1, k2, k3, _⟩ := KM3.out
          obtain ⟨e0, e1, _, _, e4, _⟩ := SG3.out
          simp only at k0 k1 k2 k3
          have BB := B3
          have HO := Lib.hid (show OwnL w (w3.alloc (.cells (ints [s.val]).toArray 3)) 3 1 (.slice (some ⟨w3.heap.size, 0, none⟩) 1 1) 1 (ints [s.val]) from ⟨w_alloc BB.out _, lit_own w3 [s.val] _ BB.out.size (show 1 ≤ maxLen by decide)⟩)
          go_wp2_with fail
          go_ret
          exact ⟨_, rfl, HO.out⟩
        · have ha1 : (aboV q s.val == 0) = false := by simp [ha]
          rw [show mns q s = [aboV q s.val, s.val] by unfold mns; rw [if_pos hk, if_neg (by rw [hc]; decide), if_neg ha, if_neg (by rw [ho]; exact v0), ho]]
          clear hk ha hp ho hs hn hV hv v0
          generalize aboV q s.val = ab at *
          generalize valE q s.val = er at *
          generalize pI q s.val = pr at *
          obtain ⟨q1, q2, q3, q4⟩ := q
          go_enter Try.func46, Try.ntmps46
          go_upto_region 1 with (first | (refine wl_box s (by kernel_rfl) ?_) | fail)
          generalize World.alloc (World.alloc w (.cells #[.int .i64 q1, .int .i64 q2, .int .i64 q3, .int .i64 q4] 23)) (sgO s) = y at *
          obtain ⟨_, k0, k1, k2, k3, _⟩ := KM.out
          obtain ⟨e0, e1, _, _, e4, _⟩ := SG.out
          simp only at k0 k1 k2 k3
          go_wp2_with fail
          refine (C2.out _).mono ?_
          rintro e w1 ⟨rfl, hb⟩
          have B1 := Lib.hid (w_below B0.out hb)
          have KM1 := Lib.hid (KM.out.later hb)
          have SG1 := Lib.hid (SG.out.later hb)
          clear hb e0 e1 e4 k0 k1 k2 k3 KM SG B0 C2
          obtain ⟨_, k0, k1, k2, k3, _⟩ := KM1.out
          obtain ⟨e0, e1, _, _, e4, _⟩ := SG1.out
          simp only at k0 k1 k2 k3
          rw [hcc] at e4
          go_wp2_with fail
          refine (C1.out _).mono ?_
          rintro e w2 ⟨rfl, hb⟩
          have B2 := Lib.hid (w_below B1.out hb)
          have KM2 := Lib.hid (KM1.out.later hb)
          have SG2 := Lib.hid (SG1.out.later hb)
          clear hb e0 e1 e4 k0 k1 k2 k3 KM1 SG1 B1
          obtain ⟨_, k0, k1, k2, k3, _⟩ := KM2.out
          obtain ⟨e0, e1, _, _, e4, _⟩ := SG2.out
          simp only at k0 k1 k2 k3
          go_wp2_with fail
          refine (C1.out _).mono ?_
          rintro e w3 ⟨rfl, hb⟩
          have B3 := Lib.hid (w_below B2.out hb)
          have KM3 := Lib.hid (KM2.out.later hb)
          have SG3 := Lib.hid (SG2.out.later hb)
          clear hb e0 e1 e4 k0 k1 k2 k3 KM2 SG2 B2
          obtain ⟨_, k0, k1, k2, k3, _⟩ := KM3.out
          obtain ⟨e0, e1, _, _, e4, _⟩ := SG3.out
          simp only at k0 k1 k2 k3
          have BB := B3
          have HO := Lib.hid (show OwnL w (w3.alloc (.cells (ints [ab, s.val]).toArray 3)) 3 1 (.slice (some ⟨w3.heap.size, 0, none⟩) 2 2) 2 (ints [ab, s.val]) from ⟨w_alloc BB.out _, lit_own w3 [ab, s.val] _ BB.out.size (show 2 ≤ maxLen by decide)⟩)
          go_wp2_with fail
          go_ret
          exact ⟨_, rfl, HO.out⟩
  · have hk1 : (s.kind == 2) = true := by rcases hs with h | h; exact absurd h hk; rw [h]; rfl
    by_cases ha : aboV q s.val = 0
    · exact absurd (by unfold mns; rw [if_neg hk, if_pos ha]; rfl) hn
    · rw [show mns q s = [aboV q s.val] by unfold mns; rw [if_neg hk, if_neg ha]]
      clear hk ha C1 hs hn hV hv v0
      generalize aboV q s.val = ab at *
      generalize valE q s.val = er at *
      generalize pI q s.val = pr at *
      obtain ⟨q1, q2, q3, q4⟩ := q
      go_enter Try.func46, Try.ntmps46
      go_upto_region 1 with (first | (refine wl_box s (by kernel_rfl) ?_) | fail)
      generalize World.alloc (World.alloc w (.cells #[.int .i64 q1, .int .i64 q2, .int .i64 q3, .int .i64 q4] 23)) (sgO s) = y at *
      obtain ⟨_, k0, k1, k2, k3, _⟩ := KM.out
      obtain ⟨e0, e1, _, _, e4, _⟩ := SG.out
      simp only at k0 k1 k2 k3
      go_wp2_with fail
      refine (C2.out _).mono ?_
      rintro e w1 ⟨rfl, hb⟩
      have B1 := Lib.hid (w_below B0.out hb)
      have KM1 := Lib.hid (KM.out.later hb)
      have SG1 := Lib.hid (SG.out.later hb)
      clear hb e0 e1 e4 k0 k1 k2 k3 KM SG B0 C2
      obtain ⟨_, k0, k1, k2, k3, _⟩ := KM1.out
      obtain ⟨e0, e1, _, _, e4, _⟩ := SG1.out
      simp only at k0 k1 k2 k3
      have BB := B1
      have HO := Lib.hid (show OwnL w (w1.alloc (.cells (ints [ab]).toArray 3)) 3 1 (.slice (some ⟨w1.heap.size, 0, none⟩) 1 1) 1 (ints [ab]) from ⟨w_alloc BB.out _, lit_own w1 [ab] _ BB.out.size (show 1 ≤ maxLen by decide)⟩)
      go_wp2_with fail
      go_ret
      exact ⟨_, rfl, HO.out⟩

end Go.Proofs.Ythokapebcplmkaa
