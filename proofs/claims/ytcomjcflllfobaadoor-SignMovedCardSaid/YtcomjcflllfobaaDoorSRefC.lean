/- The reference's ranges of fields. -/
import Derived.Test.YtcomjcflllfobaaDoorSProgB
namespace Go.Proofs.YtcomjcflllfobaaDoor
open Go.RowKit
attribute [local go_sem] sgA_g0 sgA_g1 sgA_g2 sgA_g3 sgA_g4 sgA_g5 sgA_g6 sgA_g7 sgA_g8 sgA_g9 sgA_g10 sgA_g11 sgA_g12 sgA_g13 sgA_g14 sgA_g15 sgA_g16

set_option maxRecDepth 100000 in
set_option maxHeartbeats 8000000 in
theorem rrng_any (s : Sg) (hk : kOk s.kind) (w : World) : Calls Tryd.prog 47 #[sgv s] w fun e w' => e = .returned (.bool (rngB s)) ∧ Below w.heap.size w w' := by
  have HN := sg_new w s
  have B1 := Lib.hid (w_alloc (w_refl w) (sgO s))
  have HL := Lib.hid HN.sg
  rcases kinds_of hk with h | h | h | h | h | h | h | h | h | h | h | h
  all_goals clear hk
  · have k0 : (w.alloc (sgO s)).cell? ⟨w.heap.size, 0, none⟩ = some (.int .i64 1) := by have := HN.cell (j := 0) (v := .int .i64 s.kind) rfl; rw [h] at this; exact this
    have k1 := HN.cell (j := 1) (v := .int .i64 s.val) rfl
    have k2 := HN.cell (j := 2) (v := .int .i64 s.place) rfl
    have k3 := HN.cell (j := 3) (v := .int .i64 s.acc) rfl
    have HR : rngB s = ((inB s.val 1 8 && inB s.place (-4) 12) && inB s.acc (-1) 2) := by unfold rngB plcB; rw [if_pos h, Bool.and_assoc]
    have C1 := Lib.hid (fun W => rbtw_any s.val 1 8 W)
    have C2 := Lib.hid (fun W => rbtw_any s.place (-4) 12 W)
    have C3 := Lib.hid (fun W => rbtw_any s.acc (-1) 2 W)
    rw [HR]
    clear HN HR h
    generalize inB s.val 1 8 = b1 at *
    generalize inB s.place (-4) 12 = b2 at *
    generalize inB s.acc (-1) 2 = b3 at *
    cases b1 with
    | false =>
      go_enter Tryd.func47, Tryd.ntmps47
      go_wp2_with (first | (refine wl_box s (by kernel_rfl) ?_) | fail)
      refine (C1.out _).mono ?_
      rintro e w1 ⟨rfl, rfl⟩
      go_wp2_with fail
      go_ret
      exact ⟨rfl, B1.out⟩
    | true =>
      cases b2 with
      | false =>
        go_enter Tryd.func47, Tryd.ntmps47
        go_wp2_with (first | (refine wl_box s (by kernel_rfl) ?_) | fail)
        refine (C1.out _).mono ?_
        rintro e w1 ⟨rfl, rfl⟩
        go_wp2_with fail
        refine (C2.out _).mono ?_
        rintro e w1 ⟨rfl, rfl⟩
        go_wp2_with fail
        go_ret
        exact ⟨rfl, B1.out⟩
      | true =>
        go_enter Tryd.func47, Tryd.ntmps47
        go_wp2_with (first | (refine wl_box s (by kernel_rfl) ?_) | fail)
        refine (C1.out _).mono ?_
        rintro e w1 ⟨rfl, rfl⟩
        go_wp2_with fail
        refine (C2.out _).mono ?_
        rintro e w1 ⟨rfl, rfl⟩
        go_wp2_with fail
        refine (C3.out _).mono ?_
        rintro e w1 ⟨rfl, rfl⟩
        go_wp2_with fail
        go_ret
        exact ⟨rfl, B1.out⟩
  · have k0 : (w.alloc (sgO s)).cell? ⟨w.heap.size, 0, none⟩ = some (.int .i64 2) := by have := HN.cell (j := 0) (v := .int .i64 s.kind) rfl; rw [h] at this; exact this
    have k1 := HN.cell (j := 1) (v := .int .i64 s.val) rfl
    have HR : rngB s = (inB s.val 1 8) := by unfold rngB; rw [if_neg (by omega), if_pos h]
    have C := Lib.hid (fun W => rbtw_any s.val 1 8 W)
    rw [HR]
    clear HN HR h
    generalize inB s.val 1 8 = b at *
    go_enter Tryd.func47, Tryd.ntmps47
    go_wp2_with (first | (refine wl_box s (by kernel_rfl) ?_) | fail)
    refine (C.out _).mono ?_
    rintro e w1 ⟨rfl, rfl⟩
    go_wp2_with fail
    go_ret
    exact ⟨rfl, B1.out⟩
  · have k0 : (w.alloc (sgO s)).cell? ⟨w.heap.size, 0, none⟩ = some (.int .i64 3) := by have := HN.cell (j := 0) (v := .int .i64 s.kind) rfl; rw [h] at this; exact this
    have HR : rngB s = (true) := by unfold rngB; rw [if_neg (by omega), if_neg (by omega), if_neg (by omega), if_neg (by omega), if_neg (by omega), if_neg (by omega), if_neg (by omega)]
    rw [HR]
    clear HN HR h
    go_enter Tryd.func47, Tryd.ntmps47
    go_wp2_with (first | (refine wl_box s (by kernel_rfl) ?_) | fail)
    go_ret
    exact ⟨rfl, B1.out⟩
  · have k0 : (w.alloc (sgO s)).cell? ⟨w.heap.size, 0, none⟩ = some (.int .i64 4) := by have := HN.cell (j := 0) (v := .int .i64 s.kind) rfl; rw [h] at this; exact this
    have k2 := HN.cell (j := 2) (v := .int .i64 s.place) rfl
    have k3 := HN.cell (j := 3) (v := .int .i64 s.acc) rfl
    have k5 := HN.cell (j := 5) (v := .int .i64 s.stem) rfl
    have HR : rngB s = ((inB s.place (-4) 12 && inB s.acc (-1) 2) && inB s.stem 0 3) := by unfold rngB plcB; rw [if_neg (by omega), if_neg (by omega), if_pos h]
    have C1 := Lib.hid (fun W => rbtw_any s.place (-4) 12 W)
    have C2 := Lib.hid (fun W => rbtw_any s.acc (-1) 2 W)
    have C3 := Lib.hid (fun W => rbtw_any s.stem 0 3 W)
    rw [HR]
    clear HN HR h
    generalize inB s.place (-4) 12 = b1 at *
    generalize inB s.acc (-1) 2 = b2 at *
    generalize inB s.stem 0 3 = b3 at *
    cases b1 with
    | false =>
      go_enter Tryd.func47, Tryd.ntmps47
      go_wp2_with (first | (refine wl_box s (by kernel_rfl) ?_) | fail)
      refine (C1.out _).mono ?_
      rintro e w1 ⟨rfl, rfl⟩
      go_wp2_with fail
      go_ret
      exact ⟨rfl, B1.out⟩
    | true =>
      cases b2 with
      | false =>
        go_enter Tryd.func47, Tryd.ntmps47
        go_wp2_with (first | (refine wl_box s (by kernel_rfl) ?_) | fail)
        refine (C1.out _).mono ?_
        rintro e w1 ⟨rfl, rfl⟩
        go_wp2_with fail
        refine (C2.out _).mono ?_
        rintro e w1 ⟨rfl, rfl⟩
        go_wp2_with fail
        go_ret
        exact ⟨rfl, B1.out⟩
      | true =>
        go_enter Tryd.func47, Tryd.ntmps47
        go_wp2_with (first | (refine wl_box s (by kernel_rfl) ?_) | fail)
        refine (C1.out _).mono ?_
        rintro e w1 ⟨rfl, rfl⟩
        go_wp2_with fail
        refine (C2.out _).mono ?_
        rintro e w1 ⟨rfl, rfl⟩
        go_wp2_with fail
        refine (C3.out _).mono ?_
        rintro e w1 ⟨rfl, rfl⟩
        go_wp2_with fail
        go_ret
        exact ⟨rfl, B1.out⟩
  · have k0 : (w.alloc (sgO s)).cell? ⟨w.heap.size, 0, none⟩ = some (.int .i64 5) := by have := HN.cell (j := 0) (v := .int .i64 s.kind) rfl; rw [h] at this; exact this
    have HR : rngB s = (true) := by unfold rngB; rw [if_neg (by omega), if_neg (by omega), if_neg (by omega), if_neg (by omega), if_neg (by omega), if_neg (by omega), if_neg (by omega)]
    rw [HR]
    clear HN HR h
    go_enter Tryd.func47, Tryd.ntmps47
    go_wp2_with (first | (refine wl_box s (by kernel_rfl) ?_) | fail)
    go_ret
    exact ⟨rfl, B1.out⟩
  · have k0 : (w.alloc (sgO s)).cell? ⟨w.heap.size, 0, none⟩ = some (.int .i64 6) := by have := HN.cell (j := 0) (v := .int .i64 s.kind) rfl; rw [h] at this; exact this
    have k13 := HN.cell (j := 13) (v := .int .i64 s.n) rfl
    have k14 := HN.cell (j := 14) (v := .int .i64 s.d) rfl
    have HR : rngB s = (inB s.n 1 100 && inB s.d 1 100) := by unfold rngB; rw [if_neg (by omega), if_neg (by omega), if_neg (by omega), if_pos h]
    have C1 := Lib.hid (fun W => rbtw_any s.n 1 100 W)
    have C2 := Lib.hid (fun W => rbtw_any s.d 1 100 W)
    rw [HR]
    clear HN HR h
    generalize inB s.n 1 100 = b1 at *
    generalize inB s.d 1 100 = b2 at *
    cases b1 with
    | false =>
      go_enter Tryd.func47, Tryd.ntmps47
      go_wp2_with (first | (refine wl_box s (by kernel_rfl) ?_) | fail)
      refine (C1.out _).mono ?_
      rintro e w1 ⟨rfl, rfl⟩
      go_wp2_with fail
      go_ret
      exact ⟨rfl, B1.out⟩
    | true =>
      go_enter Tryd.func47, Tryd.ntmps47
      go_wp2_with (first | (refine wl_box s (by kernel_rfl) ?_) | fail)
      refine (C1.out _).mono ?_
      rintro e w1 ⟨rfl, rfl⟩
      go_wp2_with fail
      refine (C2.out _).mono ?_
      rintro e w1 ⟨rfl, rfl⟩
      go_wp2_with fail
      go_ret
      exact ⟨rfl, B1.out⟩
  · have k0 : (w.alloc (sgO s)).cell? ⟨w.heap.size, 0, none⟩ = some (.int .i64 7) := by have := HN.cell (j := 0) (v := .int .i64 s.kind) rfl; rw [h] at this; exact this
    have k15 := HN.cell (j := 15) (v := .int .i64 s.c0) rfl
    have k16 := HN.cell (j := 16) (v := .int .i64 s.c1) rfl
    have HR : rngB s = ((chkC (s.c0, s.c1) == 0)) := by unfold rngB; rw [if_neg (by omega), if_neg (by omega), if_neg (by omega), if_neg (by omega), if_pos h]
    have C := Lib.hid (fun W => rbtw_any s.c1 1 5 W)
    have HC : (chkC (s.c0, s.c1) == 0) = (decide (stepOk s.c0) && inB s.c1 1 5) := by
      unfold chkC inB
      by_cases h1 : stepOk s.c0
      · by_cases h2 : 1 ≤ s.c1 ∧ s.c1 ≤ 5
        · rw [if_pos h1, if_pos h2, decide_eq_true h1, decide_eq_true h2]; rfl
        · rw [if_pos h1, if_neg h2, decide_eq_true h1, decide_eq_false h2]; rfl
      · rw [if_neg h1, decide_eq_false h1]; rfl
    rw [HR, HC]
    clear HN HR HC h
    generalize inB s.c1 1 5 = b at *
    by_cases e0 : s.c0 = 0
    · have q0 : (s.c0 == 0) = true := by simp [e0]
      rw [decide_eq_true (show stepOk s.c0 by unfold stepOk; omega)]
      go_enter Tryd.func47, Tryd.ntmps47
      go_wp2_with (first | (refine wl_box s (by kernel_rfl) ?_) | fail)
      refine (C.out _).mono ?_
      rintro e w1 ⟨rfl, rfl⟩
      go_wp2_with fail
      go_ret
      exact ⟨rfl, B1.out⟩
    · have q0 : (s.c0 == 0) = false := by simp [e0]
      by_cases e1 : s.c0 = 3
      · have q1 : (s.c0 == 3) = true := by simp [e1]
        rw [decide_eq_true (show stepOk s.c0 by unfold stepOk; omega)]
        go_enter Tryd.func47, Tryd.ntmps47
        go_wp2_with (first | (refine wl_box s (by kernel_rfl) ?_) | fail)
        refine (C.out _).mono ?_
        rintro e w1 ⟨rfl, rfl⟩
        go_wp2_with fail
        go_ret
        exact ⟨rfl, B1.out⟩
      · have q1 : (s.c0 == 3) = false := by simp [e1]
        by_cases e2 : s.c0 = 4
        · have q2 : (s.c0 == 4) = true := by simp [e2]
          rw [decide_eq_true (show stepOk s.c0 by unfold stepOk; omega)]
          go_enter Tryd.func47, Tryd.ntmps47
          go_wp2_with (first | (refine wl_box s (by kernel_rfl) ?_) | fail)
          refine (C.out _).mono ?_
          rintro e w1 ⟨rfl, rfl⟩
          go_wp2_with fail
          go_ret
          exact ⟨rfl, B1.out⟩
        · have q2 : (s.c0 == 4) = false := by simp [e2]
          rw [decide_eq_false (show ¬ stepOk s.c0 by unfold stepOk; omega)]
          go_enter Tryd.func47, Tryd.ntmps47
          go_wp2_with (first | (refine wl_box s (by kernel_rfl) ?_) | fail)
          go_ret
          exact ⟨rfl, B1.out⟩
  · have k0 : (w.alloc (sgO s)).cell? ⟨w.heap.size, 0, none⟩ = some (.int .i64 8) := by have := HN.cell (j := 0) (v := .int .i64 s.kind) rfl; rw [h] at this; exact this
    have k13 := HN.cell (j := 13) (v := .int .i64 s.n) rfl
    have HR : rngB s = (inB s.n 0 2) := by unfold rngB; rw [if_neg (by omega), if_neg (by omega), if_neg (by omega), if_neg (by omega), if_neg (by omega), if_pos h]
    have C := Lib.hid (fun W => rbtw_any s.n 0 2 W)
    rw [HR]
    clear HN HR h
    generalize inB s.n 0 2 = b at *
    go_enter Tryd.func47, Tryd.ntmps47
    go_wp2_with (first | (refine wl_box s (by kernel_rfl) ?_) | fail)
    refine (C.out _).mono ?_
    rintro e w1 ⟨rfl, rfl⟩
    go_wp2_with fail
    go_ret
    exact ⟨rfl, B1.out⟩
  · have k0 : (w.alloc (sgO s)).cell? ⟨w.heap.size, 0, none⟩ = some (.int .i64 9) := by have := HN.cell (j := 0) (v := .int .i64 s.kind) rfl; rw [h] at this; exact this
    have HR : rngB s = (true) := by unfold rngB; rw [if_neg (by omega), if_neg (by omega), if_neg (by omega), if_neg (by omega), if_neg (by omega), if_neg (by omega), if_neg (by omega)]
    rw [HR]
    clear HN HR h
    go_enter Tryd.func47, Tryd.ntmps47
    go_wp2_with (first | (refine wl_box s (by kernel_rfl) ?_) | fail)
    go_ret
    exact ⟨rfl, B1.out⟩
  · have k0 : (w.alloc (sgO s)).cell? ⟨w.heap.size, 0, none⟩ = some (.int .i64 10) := by have := HN.cell (j := 0) (v := .int .i64 s.kind) rfl; rw [h] at this; exact this
    have k13 := HN.cell (j := 13) (v := .int .i64 s.n) rfl
    have HR : rngB s = (inB s.n 2 4) := by unfold rngB; rw [if_neg (by omega), if_neg (by omega), if_neg (by omega), if_neg (by omega), if_neg (by omega), if_neg (by omega), if_pos h]
    have C := Lib.hid (fun W => rbtw_any s.n 2 4 W)
    rw [HR]
    clear HN HR h
    generalize inB s.n 2 4 = b at *
    go_enter Tryd.func47, Tryd.ntmps47
    go_wp2_with (first | (refine wl_box s (by kernel_rfl) ?_) | fail)
    refine (C.out _).mono ?_
    rintro e w1 ⟨rfl, rfl⟩
    go_wp2_with fail
    go_ret
    exact ⟨rfl, B1.out⟩
  · have k0 : (w.alloc (sgO s)).cell? ⟨w.heap.size, 0, none⟩ = some (.int .i64 11) := by have := HN.cell (j := 0) (v := .int .i64 s.kind) rfl; rw [h] at this; exact this
    have HR : rngB s = (true) := by unfold rngB; rw [if_neg (by omega), if_neg (by omega), if_neg (by omega), if_neg (by omega), if_neg (by omega), if_neg (by omega), if_neg (by omega)]
    rw [HR]
    clear HN HR h
    go_enter Tryd.func47, Tryd.ntmps47
    go_wp2_with (first | (refine wl_box s (by kernel_rfl) ?_) | fail)
    go_ret
    exact ⟨rfl, B1.out⟩
  · have k0 : (w.alloc (sgO s)).cell? ⟨w.heap.size, 0, none⟩ = some (.int .i64 12) := by have := HN.cell (j := 0) (v := .int .i64 s.kind) rfl; rw [h] at this; exact this
    have HR : rngB s = (true) := by unfold rngB; rw [if_neg (by omega), if_neg (by omega), if_neg (by omega), if_neg (by omega), if_neg (by omega), if_neg (by omega), if_neg (by omega)]
    rw [HR]
    clear HN HR h
    go_enter Tryd.func47, Tryd.ntmps47
    go_wp2_with (first | (refine wl_box s (by kernel_rfl) ?_) | fail)
    go_ret
    exact ⟨rfl, B1.out⟩

end Go.Proofs.YtcomjcflllfobaaDoor
