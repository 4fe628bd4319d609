/- The checks of a mensuration and of a value, and the parts of a value, of the program and of the reference. -/
import Derived.Test.YthokapebcplmkaaMSpec
namespace Go.Proofs.Ythokapebcplmkaa
open Go.RowKit

def nthQ (q : Q4) : Nat → Int
  | 0 => q.1
  | 1 => q.2.1
  | 2 => q.2.2.1
  | _ => q.2.2.2
theorem ok_of_all {q : Q4} (h : ∀ j, j < 4 → two (nthQ q j)) : okM q := ⟨h 0 (by omega), h 1 (by omega), h 2 (by omega), h 3 (by omega)⟩
theorem no_of {q : Q4} {j : Nat} (hj : j < 4) (h : ¬ two (nthQ q j)) : ¬ okM q := by
  rintro ⟨h1, h2, h3, h4⟩
  have c : j = 0 ∨ j = 1 ∨ j = 2 ∨ j = 3 := by omega
  rcases c with rfl | rfl | rfl | rfl
  · exact h h1
  · exact h h2
  · exact h h3
  · exact h h4
theorem all_more {q : Q4} {k : Nat} (h : ∀ j, j < k → two (nthQ q j)) (hk : two (nthQ q k)) : ∀ j, j < k + 1 → two (nthQ q j) := by
  intro j hj
  by_cases e : j = k
  · rw [e]; exact hk
  · exact h j (by omega)
theorem not_two {x : Int} (h : ¬ two x) : (x == 2) = false ∧ (x == 3) = false ∧ (x != 2) = true ∧ (x != 3) = true := by
  unfold two at h
  have h2 : x ≠ 2 := fun e => h (.inl e)
  have h3 : x ≠ 3 := fun e => h (.inr e)
  simp [h2, h3]

theorem numsOf_any (q : Q4) (w : World) : Calls Try.prog 66 #[mv q] w fun e w' => e = .returned (mv q) ∧ Below w.heap.size w w' := by
  obtain ⟨a, b, c, d⟩ := q
  go_enter Try.func66, Try.ntmps66
  go_wp2_with fail
  refine bodyPost_ret (v := mv (a, b, c, d)) (by simp [results, Try.results66, go_sem]) rfl ⟨rfl, ?_⟩
  exact w_alloc (w_alloc (w_refl w) _) _


set_option maxHeartbeats 4000000 in
theorem mcheck_any (q : Q4) (w : World) : Calls Try.prog 51 #[mv q] w fun e w' => e = .returned (.int .i64 (chkM q)) ∧ Below w.heap.size w w' := by
  obtain ⟨a, b, c, d⟩ := q
  have NU := Lib.hid (fun W => numsOf_any (a, b, c, d) W)
  have K := Lib.hid (Cell4.made w (a, b, c, d) 23)
  have i0 : ∀ w, (Instr.index 82 (.agg #[.int .i64 a, .int .i64 b, .int .i64 c, .int .i64 d]) (.int .i64 0)).run Try.prog w = .ok (.int .i64 a) w := fun _ => by kernel_rfl
  have i1 : ∀ w, (Instr.index 82 (.agg #[.int .i64 a, .int .i64 b, .int .i64 c, .int .i64 d]) (.int .i64 1)).run Try.prog w = .ok (.int .i64 b) w := fun _ => by kernel_rfl
  have i2 : ∀ w, (Instr.index 82 (.agg #[.int .i64 a, .int .i64 b, .int .i64 c, .int .i64 d]) (.int .i64 2)).run Try.prog w = .ok (.int .i64 c) w := fun _ => by kernel_rfl
  have i3 : ∀ w, (Instr.index 82 (.agg #[.int .i64 a, .int .i64 b, .int .i64 c, .int .i64 d]) (.int .i64 3)).run Try.prog w = .ok (.int .i64 d) w := fun _ => by kernel_rfl
  go_enter Try.func51, Try.ntmps51
  go_wp2_with fail
  refine (NU.out _).mono ?_
  rintro e w1 ⟨rfl, hb⟩
  have hB := Lib.hid (w_below (w_alloc (w_refl w) _) hb)
  clear hb K NU
  go_wp2_with fail
  go_loopw [7] (fun i wr => ∃ k : Nat, k ≤ 4 ∧ i = .int .i64 k ∧ Hid (∀ j, j < k → two (nthQ (a, b, c, d) j)) ∧ Hid (Below w.heap.size w wr)) (fun i _ => 4 - (intOf i).toNat)
  case atStart => exact ⟨0, by omega, rfl, Lib.hid (fun j hj => by omega), hB⟩
  case round =>
    obtain ⟨k, hk, rfl, hal, hbr⟩ := hrel
    have ck : k = 0 ∨ k = 1 ∨ k = 2 ∨ k = 3 ∨ k = 4 := by omega
    clear hB
    rcases ck with rfl | rfl | rfl | rfl | rfl
    · by_cases h : two a
      · have hal2 := Lib.hid (all_more hal.out (show two (nthQ (a, b, c, d) 0) from h))
        clear hal
        rcases h with rfl | rfl
        all_goals
          go_wp2_with fail
          go_roundw
          case rel => exact ⟨1, by omega, rfl, hal2, hbr⟩
          case measure => simp [intOf]
      · obtain ⟨e1, e2, e3, e4⟩ := not_two h
        have hn := Lib.hid (chkM_no (no_of (q := (a, b, c, d)) (j := 0) (by omega) h))
        clear h hal
        go_wp2_with fail
        go_ret
        exact ⟨by first | (rw [hn.out]; rfl) | rw [hn.out], hbr.out⟩
    · by_cases h : two b
      · have hal2 := Lib.hid (all_more hal.out (show two (nthQ (a, b, c, d) 1) from h))
        clear hal
        rcases h with rfl | rfl
        all_goals
          go_wp2_with fail
          go_roundw
          case rel => exact ⟨2, by omega, rfl, hal2, hbr⟩
          case measure => simp [intOf]
      · obtain ⟨e1, e2, e3, e4⟩ := not_two h
        have hn := Lib.hid (chkM_no (no_of (q := (a, b, c, d)) (j := 1) (by omega) h))
        clear h hal
        go_wp2_with fail
        go_ret
        exact ⟨by first | (rw [hn.out]; rfl) | rw [hn.out], hbr.out⟩
    · by_cases h : two c
      · have hal2 := Lib.hid (all_more hal.out (show two (nthQ (a, b, c, d) 2) from h))
        clear hal
        rcases h with rfl | rfl
        all_goals
          go_wp2_with fail
          go_roundw
          case rel => exact ⟨3, by omega, rfl, hal2, hbr⟩
          case measure => simp [intOf]
      · obtain ⟨e1, e2, e3, e4⟩ := not_two h
        have hn := Lib.hid (chkM_no (no_of (q := (a, b, c, d)) (j := 2) (by omega) h))
        clear h hal
        go_wp2_with fail
        go_ret
        exact ⟨by first | (rw [hn.out]; rfl) | rw [hn.out], hbr.out⟩
    · by_cases h : two d
      · have hal2 := Lib.hid (all_more hal.out (show two (nthQ (a, b, c, d) 3) from h))
        clear hal
        rcases h with rfl | rfl
        all_goals
          go_wp2_with fail
          go_roundw
          case rel => exact ⟨4, by omega, rfl, hal2, hbr⟩
          case measure => simp [intOf]
      · obtain ⟨e1, e2, e3, e4⟩ := not_two h
        have hn := Lib.hid (chkM_no (no_of (q := (a, b, c, d)) (j := 3) (by omega) h))
        clear h hal
        go_wp2_with fail
        go_ret
        exact ⟨by first | (rw [hn.out]; rfl) | rw [hn.out], hbr.out⟩
    · have hn := Lib.hid (chkM_ok (ok_of_all hal.out))
      clear hal
      go_wp2_with fail
      go_ret
      exact ⟨by first | (rw [hn.out]; rfl) | rw [hn.out], hbr.out⟩


set_option maxHeartbeats 4000000 in
theorem rmcheck_any (q : Q4) (w : World) : Calls Try.prog 54 #[mv q] w fun e w' => e = .returned (.int .i64 (chkM q)) ∧ Below w.heap.size w w' := by
  obtain ⟨a, b, c, d⟩ := q
  go_enter Try.func54, Try.ntmps54
  go_wp2_with fail
  have hB := Lib.hid (w_alloc (w_alloc (w_refl w) (.cells #[.int .i64 a, .int .i64 b, .int .i64 c, .int .i64 d] 23)) (.cells #[.int .i64 a, .int .i64 b, .int .i64 c, .int .i64 d] 3))
  have K := Lib.hid (Cell4.made (w.alloc (.cells #[.int .i64 a, .int .i64 b, .int .i64 c, .int .i64 d] 23)) (a, b, c, d) 3)
  rw [World.size_alloc] at K
  go_loopw [4] (fun i wr => ∃ k : Nat, k ≤ 4 ∧ i = .int .i64 k ∧ Hid (∀ j, j < k → two (nthQ (a, b, c, d) j)) ∧ Hid (Cell4 wr (w.heap.size + 1) (a, b, c, d)) ∧ Hid (Below w.heap.size w wr)) (fun i _ => 4 - (intOf i).toNat)
  case atStart => exact ⟨0, by omega, rfl, Lib.hid (fun j hj => by omega), K, hB⟩
  case round =>
    obtain ⟨k, hk, rfl, hal, hK, hbr⟩ := hrel
    have ck : k = 0 ∨ k = 1 ∨ k = 2 ∨ k = 3 ∨ k = 4 := by omega
    obtain ⟨_, c0, c1, c2, c3, _, _, _, _⟩ := hK.out
    clear hB K
    rcases ck with rfl | rfl | rfl | rfl | rfl
    · by_cases h : two a
      · have hal2 := Lib.hid (all_more hal.out (show two (nthQ (a, b, c, d) 0) from h))
        clear hal
        rcases h with rfl | rfl
        all_goals
          go_wp2_with fail
          go_roundw
          case rel => exact ⟨1, by omega, rfl, hal2, hK, hbr⟩
          case measure => simp [intOf]
      · obtain ⟨e1, e2, e3, e4⟩ := not_two h
        have hn := Lib.hid (chkM_no (no_of (q := (a, b, c, d)) (j := 0) (by omega) h))
        clear h hal
        go_wp2_with fail
        go_ret
        exact ⟨by first | (rw [hn.out]; rfl) | rw [hn.out], hbr.out⟩
    · by_cases h : two b
      · have hal2 := Lib.hid (all_more hal.out (show two (nthQ (a, b, c, d) 1) from h))
        clear hal
        rcases h with rfl | rfl
        all_goals
          go_wp2_with fail
          go_roundw
          case rel => exact ⟨2, by omega, rfl, hal2, hK, hbr⟩
          case measure => simp [intOf]
      · obtain ⟨e1, e2, e3, e4⟩ := not_two h
        have hn := Lib.hid (chkM_no (no_of (q := (a, b, c, d)) (j := 1) (by omega) h))
        clear h hal
        go_wp2_with fail
        go_ret
        exact ⟨by first | (rw [hn.out]; rfl) | rw [hn.out], hbr.out⟩
    · by_cases h : two c
      · have hal2 := Lib.hid (all_more hal.out (show two (nthQ (a, b, c, d) 2) from h))
        clear hal
        rcases h with rfl | rfl
        all_goals
          go_wp2_with fail
          go_roundw
          case rel => exact ⟨3, by omega, rfl, hal2, hK, hbr⟩
          case measure => simp [intOf]
      · obtain ⟨e1, e2, e3, e4⟩ := not_two h
        have hn := Lib.hid (chkM_no (no_of (q := (a, b, c, d)) (j := 2) (by omega) h))
        clear h hal
        go_wp2_with fail
        go_ret
        exact ⟨by first | (rw [hn.out]; rfl) | rw [hn.out], hbr.out⟩
    · by_cases h : two d
      · have hal2 := Lib.hid (all_more hal.out (show two (nthQ (a, b, c, d) 3) from h))
        clear hal
        rcases h with rfl | rfl
        all_goals
          go_wp2_with fail
          go_roundw
          case rel => exact ⟨4, by omega, rfl, hal2, hK, hbr⟩
          case measure => simp [intOf]
      · obtain ⟨e1, e2, e3, e4⟩ := not_two h
        have hn := Lib.hid (chkM_no (no_of (q := (a, b, c, d)) (j := 3) (by omega) h))
        clear h hal
        go_wp2_with fail
        go_ret
        exact ⟨by first | (rw [hn.out]; rfl) | rw [hn.out], hbr.out⟩
    · have hn := Lib.hid (chkM_ok (ok_of_all hal.out))
      clear hal
      go_wp2_with fail
      go_ret
      exact ⟨by first | (rw [hn.out]; rfl) | rw [hn.out], hbr.out⟩


theorem mboth_any (q : Q4) (v : Int) (w : World) : Calls Try.prog 70 #[mv q, .int .i64 v] w fun e w' => e = .returned (.int .i64 (valE q v)) ∧ Below w.heap.size w w' := by
  have C := Lib.hid (fun W => mcheck_any q W)
  by_cases h : okM q
  · rw [chkM_ok h] at C
    obtain ⟨a, b, c, d⟩ := q
    by_cases h1 : v < 1
    · have hv := Lib.hid (valE_out h (v := v) (by omega))
      clear h
      go_enter Try.func70, Try.ntmps70
      go_wp2_with fail
      refine (C.out _).mono ?_
      rintro e w1 ⟨rfl, hb⟩
      have hB := Lib.hid (w_below (w_alloc (w_refl w) _) hb)
      clear hb C
      go_wp2_with fail
      go_ret
      exact ⟨by first | (rw [hv.out]; rfl) | rw [hv.out], hB.out⟩
    · by_cases h2 : 8 < v
      · have hv := Lib.hid (valE_out h (v := v) (by omega))
        clear h
        go_enter Try.func70, Try.ntmps70
        go_wp2_with fail
        refine (C.out _).mono ?_
        rintro e w1 ⟨rfl, hb⟩
        have hB := Lib.hid (w_below (w_alloc (w_refl w) _) hb)
        clear hb C
        go_wp2_with fail
        go_ret
        exact ⟨by first | (rw [hv.out]; rfl) | rw [hv.out], hB.out⟩
      · have hv := Lib.hid (valE_ok h (v := v) (by omega))
        clear h
        go_enter Try.func70, Try.ntmps70
        go_wp2_with fail
        refine (C.out _).mono ?_
        rintro e w1 ⟨rfl, hb⟩
        have hB := Lib.hid (w_below (w_alloc (w_refl w) _) hb)
        clear hb C
        go_wp2_with fail
        go_ret
        exact ⟨by first | (rw [hv.out]; rfl) | rw [hv.out], hB.out⟩
  · rw [chkM_no h] at C
    have hv := Lib.hid (valE_no (v := v) h)
    obtain ⟨a, b, c, d⟩ := q
    clear h
    go_enter Try.func70, Try.ntmps70
    go_wp2_with fail
    refine (C.out _).mono ?_
    rintro e w1 ⟨rfl, hb⟩
    have hB := Lib.hid (w_below (w_alloc (w_refl w) _) hb)
    clear hb C
    go_wp2_with fail
    go_ret
    exact ⟨by first | (rw [hv.out]; rfl) | rw [hv.out], hB.out⟩


theorem rmval_any (q : Q4) (v : Int) (w : World) : Calls Try.prog 61 #[mv q, .int .i64 v] w fun e w' => e = .returned (.int .i64 (valE q v)) ∧ Below w.heap.size w w' := by
  have C := Lib.hid (fun W => rmcheck_any q W)
  by_cases h : okM q
  · rw [chkM_ok h] at C
    obtain ⟨a, b, c, d⟩ := q
    by_cases h1 : v < 1
    · have hv := Lib.hid (valE_out h (v := v) (by omega))
      clear h
      go_enter Try.func61, Try.ntmps61
      go_wp2_with fail
      refine (C.out _).mono ?_
      rintro e w1 ⟨rfl, hb⟩
      have hB := Lib.hid (w_below (w_alloc (w_refl w) _) hb)
      clear hb C
      go_wp2_with fail
      go_ret
      exact ⟨by first | (rw [hv.out]; rfl) | rw [hv.out], hB.out⟩
    · by_cases h2 : 8 < v
      · have hv := Lib.hid (valE_out h (v := v) (by omega))
        clear h
        go_enter Try.func61, Try.ntmps61
        go_wp2_with fail
        refine (C.out _).mono ?_
        rintro e w1 ⟨rfl, hb⟩
        have hB := Lib.hid (w_below (w_alloc (w_refl w) _) hb)
        clear hb C
        go_wp2_with fail
        go_ret
        exact ⟨by first | (rw [hv.out]; rfl) | rw [hv.out], hB.out⟩
      · have hv := Lib.hid (valE_ok h (v := v) (by omega))
        clear h
        go_enter Try.func61, Try.ntmps61
        go_wp2_with fail
        refine (C.out _).mono ?_
        rintro e w1 ⟨rfl, hb⟩
        have hB := Lib.hid (w_below (w_alloc (w_refl w) _) hb)
        clear hb C
        go_wp2_with fail
        go_ret
        exact ⟨by first | (rw [hv.out]; rfl) | rw [hv.out], hB.out⟩
  · rw [chkM_no h] at C
    have hv := Lib.hid (valE_no (v := v) h)
    obtain ⟨a, b, c, d⟩ := q
    clear h
    go_enter Try.func61, Try.ntmps61
    go_wp2_with fail
    refine (C.out _).mono ?_
    rintro e w1 ⟨rfl, hb⟩
    have hB := Lib.hid (w_below (w_alloc (w_refl w) _) hb)
    clear hb C
    go_wp2_with fail
    go_ret
    exact ⟨by first | (rw [hv.out]; rfl) | rw [hv.out], hB.out⟩


theorem nparts_any (q : Q4) (v : Int) (hv : 1 ≤ v ∧ v ≤ 8) (w : World) : Calls Try.prog 74 #[mv q, .int .i64 v] w fun e w' => e = .returned (.int .i64 (pI q v)) ∧ Below w.heap.size w w' := by
  obtain ⟨a, b, c, d⟩ := q
  have cv : v = 1 ∨ v = 2 ∨ v = 3 ∨ v = 4 ∨ 4 < v := by omega
  rcases cv with rfl | rfl | rfl | rfl | h
  · show Calls _ _ _ _ fun e w' => e = .returned (.int .i64 a) ∧ _
    go_enter Try.func74, Try.ntmps74
    go_wp2_with fail
    go_ret
    exact ⟨rfl, w_alloc (w_refl w) _⟩
  · show Calls _ _ _ _ fun e w' => e = .returned (.int .i64 b) ∧ _
    go_enter Try.func74, Try.ntmps74
    go_wp2_with fail
    go_ret
    exact ⟨rfl, w_alloc (w_refl w) _⟩
  · show Calls _ _ _ _ fun e w' => e = .returned (.int .i64 c) ∧ _
    go_enter Try.func74, Try.ntmps74
    go_wp2_with fail
    go_ret
    exact ⟨rfl, w_alloc (w_refl w) _⟩
  · show Calls _ _ _ _ fun e w' => e = .returned (.int .i64 d) ∧ _
    go_enter Try.func74, Try.ntmps74
    go_wp2_with fail
    go_ret
    exact ⟨rfl, w_alloc (w_refl w) _⟩
  · rw [pI_small _ (show 5 ≤ v by omega)]
    have e1 : (v == 1) = false := by simp; omega
    have e2 : (v == 2) = false := by simp; omega
    have e3 : (v == 3) = false := by simp; omega
    have e4 : (v == 4) = false := by simp; omega
    go_enter Try.func74, Try.ntmps74
    go_wp2_with fail
    go_ret
    exact ⟨rfl, w_alloc (w_refl w) _⟩


theorem rp_any (q : Q4) (v : Int) (hv : 1 ≤ v ∧ v ≤ 8) (w : World) : Calls Try.prog 62 #[mv q, .int .i64 v] w fun e w' => e = .returned (.int .i64 (pI q v)) ∧ Below w.heap.size w w' := by
  obtain ⟨a, b, c, d⟩ := q
  have cv : v = 1 ∨ v = 2 ∨ v = 3 ∨ v = 4 ∨ 4 < v := by omega
  rcases cv with rfl | rfl | rfl | rfl | h
  · show Calls _ _ _ _ fun e w' => e = .returned (.int .i64 a) ∧ _
    go_enter Try.func62, Try.ntmps62
    go_wp2_with fail
    go_ret
    exact ⟨rfl, w_alloc (w_refl w) _⟩
  · show Calls _ _ _ _ fun e w' => e = .returned (.int .i64 b) ∧ _
    go_enter Try.func62, Try.ntmps62
    go_wp2_with fail
    go_ret
    exact ⟨rfl, w_alloc (w_refl w) _⟩
  · show Calls _ _ _ _ fun e w' => e = .returned (.int .i64 c) ∧ _
    go_enter Try.func62, Try.ntmps62
    go_wp2_with fail
    go_ret
    exact ⟨rfl, w_alloc (w_refl w) _⟩
  · show Calls _ _ _ _ fun e w' => e = .returned (.int .i64 d) ∧ _
    go_enter Try.func62, Try.ntmps62
    go_wp2_with fail
    go_ret
    exact ⟨rfl, w_alloc (w_refl w) _⟩
  · rw [pI_small _ (show 5 ≤ v by omega)]
    have e1 : (v == 1) = false := by simp; omega
    have e2 : (v == 2) = false := by simp; omega
    have e3 : (v == 3) = false := by simp; omega
    have e4 : (v == 4) = false := by simp; omega
    go_enter Try.func62, Try.ntmps62
    go_wp2_with fail
    go_ret
    exact ⟨rfl, w_alloc (w_refl w) _⟩


def parV (q : Q4) (v : Int) : Int := if valE q v = 0 then pI q v else 0
set_option maxHeartbeats 1000000 in
theorem parts_any (q : Q4) (v : Int) (w : World) : Calls Try.prog 69 #[mv q, .int .i64 v] w fun e w' => e = .returned (.tuple #[.int .i64 (parV q v), .int .i64 (valE q v)]) ∧ Below w.heap.size w w' := by
  have C := Lib.hid (fun W => mboth_any q v W)
  have K := Lib.hid (Cell4.made w q 23)
  by_cases h : valE q v = 0
  · have hv := Lib.hid (show parV q v = pI q v by unfold parV; rw [if_pos h])
    have P := Lib.hid (fun W => nparts_any q v (valE_zero h).2 W)
    rw [h] at C ⊢
    rw [hv.out]
    obtain ⟨a, b, c, d⟩ := q
    have NU := Lib.hid (fun W => numsOf_any (a, b, c, d) W)
    clear h hv
    generalize pI (a, b, c, d) v = p at *
    go_enter Try.func69, Try.ntmps69
    go_wp2_with fail
    refine (C.out _).mono ?_
    rintro e w1 ⟨rfl, hb⟩
    obtain ⟨_, c0, c1, c2, c3, _, _, _, _⟩ := K.out.later hb
    have hB := Lib.hid (w_below (w_alloc (w_refl w) _) hb)
    clear hb C K
    go_wp2_with fail
    refine (NU.out _).mono ?_
    rintro e w2 ⟨rfl, hb2⟩
    replace hB := Lib.hid (w_below hB.out hb2)
    clear hb2 NU
    go_wp2_with fail
    refine (P.out _).mono ?_
    rintro e w3 ⟨rfl, hb3⟩
    replace hB := Lib.hid (w_below hB.out hb3)
    clear hb3 P
    go_wp2_with fail
    go_ret2
    exact ⟨rfl, hB.out⟩
  · have hv := Lib.hid (show parV q v = 0 by unfold parV; rw [if_neg h])
    rw [hv.out]
    have hne : (valE q v != 0) = true := by simp [h]
    have hne2 : (valE q v == 0) = false := by simp [h]
    clear hv h
    generalize valE q v = E at *
    obtain ⟨a, b, c, d⟩ := q
    go_enter Try.func69, Try.ntmps69
    go_wp2_with fail
    refine (C.out _).mono ?_
    rintro e w1 ⟨rfl, hb⟩
    have hB := Lib.hid (w_below (w_alloc (w_refl w) _) hb)
    clear hb C K
    go_wp2_with fail
    go_ret2
    exact ⟨rfl, hB.out⟩


end Go.Proofs.Ythokapebcplmkaa
