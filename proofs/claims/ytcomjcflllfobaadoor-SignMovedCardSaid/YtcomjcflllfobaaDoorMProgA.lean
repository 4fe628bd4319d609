/- The checks of a mensuration and of a value, and the parts of a value, of the program and of the reference. -/
import Derived.Test.YtcomjcflllfobaaDoorMSpec
namespace Go.Proofs.YtcomjcflllfobaaDoor
open Go.RowKit

def nthQ (q : Q4) : Nat → Int
  | 0 => q.1
  | 1 => q.2.1
  | 2 => q.2.2.1
  | _ => q.2.2.2
theorem ok_of_all {q : Q4} (h : ∀ j, j < 4 → two (nthQ q j)) : okM q := ⟨h 0 (by omega), h 1 (by omega), h 2 (by omega), h 3 (by omega)⟩
theorem no_of {q : Q4} {j : Nat} (hj : j < 4) (h : ¬ two (nthQ q j)) : ¬ okM q := by
  rintro ⟨h1, h2, h3, h4⟩
  have c : j = 0 ∨ j = 1 ∨ j = 2 ∨ j = 3 := by omega
  rcases c with rfl | rfl | rfl | rfl
  · exact h h1
  · exact h h2
  · exact h h3
  · exact h h4
theorem all_more {q : Q4} {k : Nat} (h : ∀ j, j < k → two (nthQ q j)) (hk : two (nthQ q k)) : ∀ j, j < k + 1 → two (nthQ q j) := by
  intro j hj
  by_cases e : j = k
  · rw [e]; exact hk
  · exact h j (by omega)
theorem not_two {x : Int} (h : ¬ two x) : (x == 2) = false ∧ (x == 3) = false ∧ (x != 2) = true ∧ (x != 3) = true := by
  unfold two at h
  have h2 : x ≠ 2 := fun e => h (.inl e)
  have h3 : x ≠ 3 := fun e => h (.inr e)
  simp [h2, h3]

theorem numsOf_any (q : Q4) (w : World) : Calls Tryd.prog 62 #[mv q] w fun e w' => e = .returned (mv q) ∧ Below w.heap.size w w' := by
  obtain ⟨a, b, c, d⟩ := q
  go_enter Tryd.func62, Tryd.ntmps62
  go_wp2_with fail
  refine bodyPost_ret (v := mv (a, b, c, d)) (by simp [results, Tryd.results62, go_sem]) rfl ⟨rfl, ?_⟩
  exact w_alloc (w_alloc (w_refl w) _) _


set_option maxHeartbeats 4000000 in
theorem mcheck_any (q : Q4) (w : World) : Calls Tryd.prog 40 #[mv q] w fun e w' => e = .returned (.int .i64 (chkM q)) ∧ Below w.heap.size w w' := by
  obtain ⟨a, b, c, d⟩ := q
  have NU := Lib.hid (fun W => numsOf_any (a, b, c, d) W)
  have K := Lib.hid (Cell4.made w (a, b, c, d) 23)
  have i0 : ∀ w, (Instr.index 82 (.agg #[.int .i64 a, .int .i64 b, .int .i64 c, .int .i64 d]) (.int .i64 0)).run Tryd.prog w = .ok (.int .i64 a) w := fun _ => by kernel_rfl
  have i1 : ∀ w, (Instr.index 82 (.agg #[.int .i64 a, .int .i64 b, .int .i64 c, .int .i64 d]) (.int .i64 1)).run Tryd.prog w = .ok (.int .i64 b) w := fun _ => by kernel_rfl
  have i2 : ∀ w, (Instr.index 82 (.agg #[.int .i64 a, .int .i64 b, .int .i64 c, .int .i64 d]) (.int .i64 2)).run Tryd.prog w = .ok (.int .i64 c) w := fun _ => by kernel_rfl
  have i3 : ∀ w, (Instr.index 82 (.agg #[.int .i64 a, .int .i64 b, .int .i64 c, .int .i64 d]) (.int .i64 3)).run Tryd.prog w = .ok (.int .i64 d) w := fun _ => by kernel_rfl
  go_enter Tryd.func40, Tryd.ntmps40
  go_wp2_with fail
  refine (NU.out _).mono ?_
  rintro e w1 ⟨rfl, hb⟩
  have hB := Lib.hid (w_below (w_alloc (w_refl w) _) hb)
  clear hb K NU
  go_wp2_with fail
  go_loopw [7] (fun i wr => ∃ k : Nat, k ≤ 4 ∧ i = .int .i64 k ∧ Hid (∀ j, j < k → two (nthQ (a, b, c, d) j)) ∧ Hid (Below w.heap.size w wr)) (fun i _ => 4 - (intOf i).toNat)
  case atStart => exact ⟨0, by omega, rfl, Lib.hid (fun j hj => by omega), hB⟩
  case round =>
    obtain ⟨k, hk, rfl, hal, hbr⟩ := hrel
    have ck : k = 0 ∨ k = 1 ∨ k = 2 ∨ k = 3 ∨ k = 4 := by omega
    clear hB
    rcases ck with rfl | rfl | rfl | rfl | rfl
    · by_cases h : two a
      · have hal2 := Lib.hid (all_more hal.out (show two (nthQ (a, b, c, d) 0) from h))
        clear hal
        rcases h with rfl | rfl
        all_goals
          go_wp2_with fail
          go_roundw
          case rel => exact ⟨1, by omega, rfl, hal2, hbr⟩
          case measure => simp [intOf]
      · obtain ⟨e1, e2, e3, e4⟩ := not_two h
        have hn := Lib.hid (chkM_no (no_of (q := (a, b, c, d)) (j := 0) (by omega) h))
        clear h hal
        go_wp2_with fail
        go_ret
        exact ⟨by first | (rw [hn.out]; rfl) | rw [hn.out], hbr.out⟩
    · by_cases h : two b
      · have hal2 := Lib.hid (all_more hal.out (show two (nthQ (a, b, c, d) 1) from h))
        clear hal
        rcases h with rfl | rfl
        all_goals
          go_wp2_with fail
          go_roundw
          case rel => exact ⟨2, by omega, rfl, hal2, hbr⟩
          case measure => simp [intOf]
      · obtain ⟨e1, e2, e3, e4⟩ := not_two h
        have hn := Lib.hid (chkM_no (no_of (q := (a, b, c, d)) (j := 1) (by omega) h))
        clear h hal
        go_wp2_with fail
        go_ret
        exact ⟨by first | (rw [hn.out]; rfl) | rw [hn.out], hbr.out⟩
    · by_cases h : two c
      · have hal2 := Lib.hid (all_more hal.out (show two (nthQ (a, b, c, d) 2) from h))
        clear hal
        rcases h with rfl | rfl
        all_goals
          go_wp2_with fail
          go_roundw
          case rel => exact ⟨3, by omega, rfl, hal2, hbr⟩
          case measure => simp [intOf]
      · obtain ⟨e1, e2, e3, e4⟩ := not_two h
        have hn := Lib.hid (chkM_no (no_of (q := (a, b, c, d)) (j := 2) (by omega) h))
        clear h hal
        go_wp2_with fail
        go_ret
        exact ⟨by first | (rw [hn.out]; rfl) | rw [hn.out], hbr.out⟩
    · by_cases h : two d
      · have hal2 := Lib.hid (all_more hal.out (show two (nthQ (a, b, c, d) 3) from h))
        clear hal
        rcases h with rfl | rfl
        all_goals
          go_wp2_with fail
          go_roundw
          case rel => exact ⟨4, by omega, rfl, hal2, hbr⟩
          case measure => simp [intOf]
      · obtain ⟨e1, e2, e3, e4⟩ := not_two h
        have hn := Lib.hid (chkM_no (no_of (q := (a, b, c, d)) (j := 3) (by omega) h))
        clear h hal
        go_wp2_with fail
        go_ret
        exact ⟨by first | (rw [hn.out]; rfl) | rw [hn.out], hbr.out⟩
    · have hn := Lib.hid (chkM_ok (ok_of_all hal.out))
      clear hal
      go_wp2_with fail
      go_ret
      exact ⟨by first | (rw [hn.out]; rfl) | rw [hn.out], hbr.out⟩


set_option maxHeartbeats 4000000 in
theorem rmcheck_any (q : Q4) (w : World) : Calls Tryd.prog 42 #[mv q] w fun e w' => e = .returned (.int .i64 (chkM q)) ∧ Below w.heap.size w w' := by
  obtain ⟨a, b, c, d⟩ := q
  go_enter Tryd.func42, Tryd.ntmps42
  go_wp2_with fail
  have hB := Lib.hid (w_alloc (w_alloc (w_refl w) (.cells #[.int .i64 a, .int .i64 b, .int .i64 c, .int .i64 d] 23)) (.cells #[.int .i64 a, .int .i64 b, .int .i64 c, .int .i64 d] 3))
  have K := Lib.hid (Cell4.made (w.alloc (.cells #[.int .i64 a, .int .i64 b, .int .i64 c, .int .i64 d] 23)) (a, b, c, d) 3)
  rw [World.size_alloc] at K
  go_loopw [4] (fun i wr => ∃ k : Nat, k ≤ 4 ∧ i = .int .i64 k ∧ Hid (∀ j, j < k → two (nthQ (a, b, c, d) j)) ∧ Hid (Cell4 wr (w.heap.size + 1) (a, b, c, d)) ∧ Hid (Below w.heap.size w wr)) (fun i _ => 4 - (intOf i).toNat)
  case atStart => exact ⟨0, by omega, rfl, Lib.hid (fun j hj => by omega), K, hB⟩
  case round =>
    obtain ⟨k, hk, rfl, hal, hK, hbr⟩ := hrel
    have ck : k = 0 ∨ k = 1 ∨ k = 2 ∨ k = 3 ∨ k = 4 := by omega
    obtain ⟨_, c0, c1, c2, c3, _, _, _, _⟩ := hK.out
    clear hB K
    rcases ck with rfl | rfl | rfl | rfl | rfl
    · by_cases h : two a
      · have hal2 := Lib.hid (all_more hal.out (show two (nthQ (a, b, c, d) 0) from h))
        clear hal
        rcases h with rfl | rfl
        all_goals
          go_wp2_with fail
          go_roundw
          case rel => exact ⟨1, by omega, rfl, hal2, hK, hbr⟩
          case measure => simp [intOf]
      · obtain ⟨e1, e2, e3, e4⟩ := not_two h
        have hn := Lib.hid (chkM_no (no_of (q := (a, b, c, d)) (j := 0) (by omega) h))
        clear h hal
        go_wp2_with fail
        go_ret
        exact ⟨by first | (rw [hn.out]; rfl) | rw [hn.out], hbr.out⟩
    · by_cases h : two b
      · have hal2 := Lib.hid (all_more hal.out (show two (nthQ (a, b, c, d) 1) from h))
        clear hal
        rcases h with rfl | rfl
        all_goals
          go_wp2_with fail
          go_roundw
          case rel => exact ⟨2, by omega, rfl, hal2, hK, hbr⟩
          case measure => simp [intOf]
      · obtain ⟨e1, e2, e3, e4⟩ := not_two h
        have hn := Lib.hid (chkM_no (no_of (q := (a, b, c, d)) (j := 1) (by omega) h))
        clear h hal
        go_wp2_with fail
        go_ret
        exact ⟨by first | (rw [hn.out]; rfl) | rw [hn.out], hbr.out⟩
    · by_cases h : two c
      · have hal2 := Lib.hid (all_more hal.out (show two (nthQ (a, b, c, d) 2) from h))
        clear hal
        rcases h with rfl | rfl
        all_goals
          go_wp2_with fail
          go_roundw
          case rel => exact ⟨3, by omega, rfl, hal2, hK, hbr⟩
          case measure => simp [intOf]
      · obtain ⟨e1, e2, e3, e4⟩ := not_two h
        have hn := Lib.hid (chkM_no (no_of (q := (a, b, c, d)) (j := 2) (by omega) h))
        clear h hal
        go_wp2_with fail
        go_ret
        exact ⟨by first | (rw [hn.out]; rfl) | rw [hn.out], hbr.out⟩
    · by_cases h : two d
      · have hal2 := Lib.hid (all_more hal.out (show two (nthQ (a, b, c, d) 3) from h))
        clear hal
        rcases h with rfl | rfl
        all_goals
          go_wp2_with fail
          go_roundw
          case rel => exact ⟨4, by omega, rfl, hal2, hK, hbr⟩
          case measure => simp [intOf]
      · obtain ⟨e1, e2, e3, e4⟩ := not_two h
        have hn := Lib.hid (chkM_no (no_of (q := (a, b, c, d)) (j := 3) (by omega) h))
        clear h hal
        go_wp2_with fail
        go_ret
        exact ⟨by first | (rw [hn.out]; rfl) | rw [hn.out], hbr.out⟩
    · have hn := Lib.hid (chkM_ok (ok_of_all hal.out))
      clear hal
      go_wp2_with fail
      go_ret
      exact ⟨by first | (rw [hn.out]; rfl) | rw [hn.out], hbr.out⟩


theorem mboth_any (q : Q4) (v : Int) (w : World) : Calls Tryd.prog 63 #[mv q, .int .i64 v] w fun e w' => e = .returned (.int .i64 (valE q v)) ∧ Below w.heap.size w w' := by
  have C := Lib.hid (fun W => mcheck_any q W)
  by_cases h : okM q
  · rw [chkM_ok h] at C
    obtain ⟨a, b, c, d⟩ := q
    by_cases h1 : v < 1
    · have hv := Lib.hid (valE_out h (v := v) (by omega))
      clear h
      go_enter Tryd.func63, Tryd.ntmps63
      go_wp2_with fail
      refine (C.out _).mono ?_
      rintro e w1 ⟨rfl, hb⟩
      have hB := Lib.hid (w_below (w_alloc (w_refl w) _) hb)
      clear hb C
      go_wp2_with fail
      go_ret
      exact ⟨by first | (rw [hv.out]; rfl) | rw [hv.out], hB.out⟩
    · by_cases h2 : 8 < v
      · have hv := Lib.hid (valE_out h (v := v) (by omega))
        clear h
        go_enter Tryd.func63, Tryd.ntmps63
        go_wp2_with fail
        refine (C.out _).mono ?_
        rintro e w1 ⟨rfl, hb⟩
        have hB := Lib.hid (w_below (w_alloc (w_refl w) _) hb)
        clear hb C
        go_wp2_with fail
        go_ret
        exact ⟨by first | (rw [hv.out]; rfl) | rw [hv.out], hB.out⟩
      · have hv := Lib.hid (valE_ok h (v := v) (by omega))
        clear h
        go_enter Tryd.func63, Tryd.ntmps63
        go_wp2_with fail
        refine (C.out _).mono ?_
        rintro e w1 ⟨rfl, hb⟩
        have hB := Lib.hid (w_below (w_alloc (w_refl w) _) hb)
        clear hb C
        go_wp2_with fail
        go_ret
        exact ⟨by first | (rw [hv.out]; rfl) | rw [hv.out], hB.out⟩
  · rw [chkM_no h] at C
    have hv := Lib.hid (valE_no (v := v) h)
    obtain ⟨a, b, c, d⟩ := q
    clear h
    go_enter Tryd.func63, Tryd.ntmps63
    go_wp2_with fail
    refine (C.out _).mono ?_
    rintro e w1 ⟨rfl, hb⟩
    have hB := Lib.hid (w_below (w_alloc (w_refl w) _) hb)
    clear hb C
    go_wp2_with fail
    go_ret
    exact ⟨by first | (rw [hv.out]; rfl) | rw [hv.out], hB.out⟩


theorem rmval_any (q : Q4) (v : Int) (w : World) : Calls Tryd.prog 65 #[mv q, .int .i64 v] w fun e w' => e = .returned (.int .i64 (valE q v)) ∧ Below w.heap.size w w' := by
  have C := Lib.hid (fun W => rmcheck_any q W)
  by_cases h : okM q
  · rw [chkM_ok h] at C
    obtain ⟨a, b, c, d⟩ := q
    by_cases h1 : v < 1
    · have hv := Lib.hid (valE_out h (v := v) (by omega))
      clear h
      go_enter Tryd.func65, Tryd.ntmps65
      go_wp2_with fail
      refine (C.out _).mono ?_
      rintro e w1 ⟨rfl, hb⟩
      have hB := Lib.hid (w_below (w_alloc (w_refl w) _) hb)
      clear hb C
      go_wp2_with fail
      go_ret
      exact ⟨by first | (rw [hv.out]; rfl) | rw [hv.out], hB.out⟩
    · by_cases h2 : 8 < v
      · have hv := Lib.hid (valE_out h (v := v) (by omega))
        clear h
        go_enter Tryd.func65, Tryd.ntmps65
        go_wp2_with fail
        refine (C.out _).mono ?_
        rintro e w1 ⟨rfl, hb⟩
        have hB := Lib.hid (w_below (w_alloc (w_refl w) _) hb)
        clear hb C
        go_wp2_with fail
        go_ret
        exact ⟨by first | (rw [hv.out]; rfl) | rw [hv.out], hB.out⟩
      · have hv := Lib.hid (valE_ok h (v := v) (by omega))
        clear h
        go_enter Tryd.func65, Tryd.ntmps65
        go_wp2_with fail
        refine (C.out _).mono ?_
        rintro e w1 ⟨rfl, hb⟩
        have hB := Lib.hid (w_below (w_alloc (w_refl w) _) hb)
        clear hb C
        go_wp2_with fail
        go_ret
        exact ⟨by first | (rw [hv.out]; rfl) | rw [hv.out], hB.out⟩
  · rw [chkM_no h] at C
    have hv := Lib.hid (valE_no (v := v) h)
    obtain ⟨a, b, c, d⟩ := q
    clear h
    go_enter Tryd.func65, Tryd.ntmps65
    go_wp2_with fail
    refine (C.out _).mono ?_
    rintro e w1 ⟨rfl, hb⟩
    have hB := Lib.hid (w_below (w_alloc (w_refl w) _) hb)
    clear hb C
    go_wp2_with fail
    go_ret
    exact ⟨by first | (rw [hv.out]; rfl) | rw [hv.out], hB.out⟩


theorem nparts_any (q : Q4) (v : Int) (hv : 1 ≤ v ∧ v ≤ 8) (w : World) : Calls Tryd.prog 83 #[mv q, .int .i64 v] w fun e w' => e = .returned (.int .i64 (pI q v)) ∧ Below w.heap.size w w' := by
  obtain ⟨a, b, c, d⟩ := q
  have cv : v = 1 ∨ v = 2 ∨ v = 3 ∨ v = 4 ∨ 4 < v := by omega
  rcases cv with rfl | rfl | rfl | rfl | h
  · show Calls _ _ _ _ fun e w' => e = .returned (.int .i64 a) ∧ _
    go_enter Tryd.func83, Tryd.ntmps83
    go_wp2_with fail
    go_ret
    exact ⟨rfl, w_alloc (w_refl w) _⟩
  · show Calls _ _ _ _ fun e w' => e = .returned (.int .i64 b) ∧ _
    go_enter Tryd.func83, Tryd.ntmps83
    go_wp2_with fail
    go_ret
    exact ⟨rfl, w_alloc (w_refl w) _⟩
  · show Calls _ _ _ _ fun e w' => e = .returned (.int .i64 c) ∧ _
    go_enter Tryd.func83, Tryd.ntmps83
    go_wp2_with fail
    go_ret
    exact ⟨rfl, w_alloc (w_refl w) _⟩
  · show Calls _ _ _ _ fun e w' => e = .returned (.int .i64 d) ∧ _
    go_enter Tryd.func83, Tryd.ntmps83
    go_wp2_with fail
    go_ret
    exact ⟨rfl, w_alloc (w_refl w) _⟩
  · rw [pI_small _ (show 5 ≤ v by omega)]
    have e1 : (v == 1) = false := by simp; omega
    have e2 : (v == 2) = false := by simp; omega
    have e3 : (v == 3) = false := by simp; omega
    have e4 : (v == 4) = false := by simp; omega
    go_enter Tryd.func83, Tryd.ntmps83
    go_wp2_with fail
    go_ret
    exact ⟨rfl, w_alloc (w_refl w) _⟩


theorem rp_any (q : Q4) (v : Int) (hv : 1 ≤ v ∧ v ≤ 8) (w : World) : Calls Tryd.prog 66 #[mv q, .int .i64 v] w fun e w' => e = .returned (.int .i64 (pI q v)) ∧ Below w.heap.size w w' := by
  obtain ⟨a, b, c, d⟩ := q
  have cv : v = 1 ∨ v = 2 ∨ v = 3 ∨ v = 4 ∨ 4 < v := by omega
  rcases cv with rfl | rfl | rfl | rfl | h
  · show Calls _ _ _ _ fun e w' => e = .returned (.int .i64 a) ∧ _
    go_enter Tryd.func66, Tryd.ntmps66
    go_wp2_with fail
    go_ret
    exact ⟨rfl, w_alloc (w_refl w) _⟩
  · show Calls _ _ _ _ fun e w' => e = .returned (.int .i64 b) ∧ _
    go_enter Tryd.func66, Tryd.ntmps66
    go_wp2_with fail
    go_ret
    exact ⟨rfl, w_alloc (w_refl w) _⟩
  · show Calls _ _ _ _ fun e w' => e = .returned (.int .i64 c) ∧ _
    go_enter Tryd.func66, Tryd.ntmps66
    go_wp2_with fail
    go_ret
    exact ⟨rfl, w_alloc (w_refl w) _⟩
  · show Calls _ _ _ _ fun e w' => e = .returned (.int .i64 d) ∧ _
    go_enter Tryd.func66, Tryd.ntmps66
    go_wp2_with fail
    go_ret
    exact ⟨rfl, w_alloc (w_refl w) _⟩
  · rw [pI_small _ (show 5 ≤ v by omega)]
    have e1 : (v == 1) = false := by simp; omega
    have e2 : (v == 2) = false := by simp; omega
    have e3 : (v == 3) = false := by simp; omega
    have e4 : (v == 4) = false := by simp; omega
    go_enter Tryd.func66, Tryd.ntmps66
    go_wp2_with fail
    go_ret
    exact ⟨rfl, w_alloc (w_refl w) _⟩


def parV (q : Q4) (v : Int) : Int := if valE q v = 0 then pI q v else 0
end Go.Proofs.YtcomjcflllfobaaDoor
