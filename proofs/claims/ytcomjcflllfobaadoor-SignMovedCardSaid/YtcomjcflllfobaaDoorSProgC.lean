/- The program's ranges of fields. -/
import Derived.Test.YtcomjcflllfobaaDoorSProgB
namespace Go.Proofs.YtcomjcflllfobaaDoor
open Go.RowKit
attribute [local go_sem] sgA_g0 sgA_g1 sgA_g2 sgA_g3 sgA_g4 sgA_g5 sgA_g6 sgA_g7 sgA_g8 sgA_g9 sgA_g10 sgA_g11 sgA_g12 sgA_g13 sgA_g14 sgA_g15 sgA_g16

set_option maxRecDepth 100000 in
set_option maxHeartbeats 8000000 in
theorem prng_any (s : Sg) (hk : kOk s.kind) (w : World) (T : TabS w) : Calls Tryd.prog 45 #[sgv s] w fun e w' => e = .returned (.bool (rngB s)) ∧ Below w.heap.size w w' := by
  have HN := sg_new w s
  have B1 := Lib.hid (w_alloc (w_refl w) (sgO s))
  have HL := Lib.hid HN.sg
  have T1 := Lib.hid (T.al (sgO s))
  rcases kinds_of hk with h | h | h | h | h | h | h | h | h | h | h | h
  all_goals clear hk
  · have k0 : (w.alloc (sgO s)).cell? ⟨w.heap.size, 0, none⟩ = some (.int .i64 1) := by have := HN.cell (j := 0) (v := .int .i64 s.kind) rfl; rw [h] at this; exact this
    have k1 := HN.cell (j := 1) (v := .int .i64 s.val) rfl
    have k2 := HN.cell (j := 2) (v := .int .i64 s.place) rfl
    have k3 := HN.cell (j := 3) (v := .int .i64 s.acc) rfl
    have HR : rngB s = (inB s.val 1 8 && plcB s) := by unfold rngB; rw [if_pos h]
    have C1 := Lib.hid (fun W => pval_any s.val W)
    have C2 := Lib.hid (fun W => pplc_any s W)
    rw [HR]
    clear HN HR h T T1
    generalize inB s.val 1 8 = b1 at *
    generalize plcB s = b2 at *
    cases b1 with
    | true =>
      go_enter Tryd.func45, Tryd.ntmps45
      go_wp2_with (first | (refine wl_box s (by kernel_rfl) ?_) | fail)
      refine (C1.out _).mono ?_
      rintro e w1 ⟨rfl, rfl⟩
      go_wp2_with (first | (refine wl_loadG w.heap.size 0 s (by kernel_rfl) (by kernel_rfl) HL.out ?_) | fail)
      refine (C2.out _).mono ?_
      rintro e w1 ⟨rfl, hb⟩
      replace k1 := cell_later hb k1
      replace k2 := cell_later hb k2
      replace k3 := cell_later hb k3
      have k0' := cell_later hb k0
      replace B1 := Lib.hid (w_below B1.out hb)
      clear hb k0 C2
      go_wp2_with fail
      go_ret
      exact ⟨rfl, B1.out⟩
    | false =>
      go_enter Tryd.func45, Tryd.ntmps45
      go_wp2_with (first | (refine wl_box s (by kernel_rfl) ?_) | fail)
      refine (C1.out _).mono ?_
      rintro e w1 ⟨rfl, rfl⟩
      go_wp2_with fail
      go_ret
      exact ⟨rfl, B1.out⟩
  · have k0 : (w.alloc (sgO s)).cell? ⟨w.heap.size, 0, none⟩ = some (.int .i64 2) := by have := HN.cell (j := 0) (v := .int .i64 s.kind) rfl; rw [h] at this; exact this
    have k1 := HN.cell (j := 1) (v := .int .i64 s.val) rfl
    have HR : rngB s = (inB s.val 1 8) := by unfold rngB; rw [if_neg (by omega), if_pos h]
    have C := Lib.hid (fun W => pval_any s.val W)
    rw [HR]
    clear HN HR h T T1
    generalize inB s.val 1 8 = b at *
    go_enter Tryd.func45, Tryd.ntmps45
    go_wp2_with (first | (refine wl_box s (by kernel_rfl) ?_) | fail)
    refine (C.out _).mono ?_
    rintro e w1 ⟨rfl, rfl⟩
    go_wp2_with fail
    go_ret
    exact ⟨rfl, B1.out⟩
  · have k0 : (w.alloc (sgO s)).cell? ⟨w.heap.size, 0, none⟩ = some (.int .i64 3) := by have := HN.cell (j := 0) (v := .int .i64 s.kind) rfl; rw [h] at this; exact this
    have HR : rngB s = (true) := by unfold rngB; rw [if_neg (by omega), if_neg (by omega), if_neg (by omega), if_neg (by omega), if_neg (by omega), if_neg (by omega), if_neg (by omega)]
    rw [HR]
    clear HN HR h T T1
    go_enter Tryd.func45, Tryd.ntmps45
    go_wp2_with (first | (refine wl_box s (by kernel_rfl) ?_) | fail)
    go_ret
    exact ⟨rfl, B1.out⟩
  · have k0 : (w.alloc (sgO s)).cell? ⟨w.heap.size, 0, none⟩ = some (.int .i64 4) := by have := HN.cell (j := 0) (v := .int .i64 s.kind) rfl; rw [h] at this; exact this
    have k2 := HN.cell (j := 2) (v := .int .i64 s.place) rfl
    have k3 := HN.cell (j := 3) (v := .int .i64 s.acc) rfl
    have k5 := HN.cell (j := 5) (v := .int .i64 s.stem) rfl
    have HR : rngB s = (plcB s && inB s.stem 0 3) := by unfold rngB; rw [if_neg (by omega), if_neg (by omega), if_pos h]
    have C1 := Lib.hid (fun W => pplc_any s W)
    have C2 := Lib.hid (fun W => pfrom_any s.stem 0 3 W)
    rw [HR]
    clear HN HR h T T1
    generalize inB s.stem 0 3 = b2 at *
    generalize plcB s = b1 at *
    cases b1 with
    | false =>
      go_enter Tryd.func45, Tryd.ntmps45
      go_wp2_with (first | (refine wl_box s (by kernel_rfl) ?_) | (refine wl_load w.heap.size 0 s (by kernel_rfl) HL.out ?_) | fail)
      refine (C1.out _).mono ?_
      rintro e w1 ⟨rfl, hb⟩
      replace k2 := cell_later hb k2
      replace k3 := cell_later hb k3
      replace k5 := cell_later hb k5
      have k0' := cell_later hb k0
      replace B1 := Lib.hid (w_below B1.out hb)
      clear hb k0 C1
      go_wp2_with fail
      go_ret
      exact ⟨rfl, B1.out⟩
    | true =>
      go_enter Tryd.func45, Tryd.ntmps45
      go_wp2_with (first | (refine wl_box s (by kernel_rfl) ?_) | (refine wl_load w.heap.size 0 s (by kernel_rfl) HL.out ?_) | fail)
      refine (C1.out _).mono ?_
      rintro e w1 ⟨rfl, hb⟩
      replace k2 := cell_later hb k2
      replace k3 := cell_later hb k3
      replace k5 := cell_later hb k5
      have k0' := cell_later hb k0
      replace B1 := Lib.hid (w_below B1.out hb)
      clear hb k0 C1
      go_wp2_with fail
      refine (C2.out _).mono ?_
      rintro e w1 ⟨rfl, rfl⟩
      go_wp2_with fail
      go_ret
      exact ⟨rfl, B1.out⟩
  · have k0 : (w.alloc (sgO s)).cell? ⟨w.heap.size, 0, none⟩ = some (.int .i64 5) := by have := HN.cell (j := 0) (v := .int .i64 s.kind) rfl; rw [h] at this; exact this
    have HR : rngB s = (true) := by unfold rngB; rw [if_neg (by omega), if_neg (by omega), if_neg (by omega), if_neg (by omega), if_neg (by omega), if_neg (by omega), if_neg (by omega)]
    rw [HR]
    clear HN HR h T T1
    go_enter Tryd.func45, Tryd.ntmps45
    go_wp2_with (first | (refine wl_box s (by kernel_rfl) ?_) | fail)
    go_ret
    exact ⟨rfl, B1.out⟩
  · have k0 : (w.alloc (sgO s)).cell? ⟨w.heap.size, 0, none⟩ = some (.int .i64 6) := by have := HN.cell (j := 0) (v := .int .i64 s.kind) rfl; rw [h] at this; exact this
    have k13 := HN.cell (j := 13) (v := .int .i64 s.n) rfl
    have k14 := HN.cell (j := 14) (v := .int .i64 s.d) rfl
    have HR : rngB s = (inB s.n 1 100 && inB s.d 1 100) := by unfold rngB; rw [if_neg (by omega), if_neg (by omega), if_neg (by omega), if_pos h]
    have C1 := Lib.hid (fun W => pfrom_any s.n 1 100 W)
    have C2 := Lib.hid (fun W => pfrom_any s.d 1 100 W)
    rw [HR]
    clear HN HR h T T1
    generalize inB s.n 1 100 = b1 at *
    generalize inB s.d 1 100 = b2 at *
    cases b1 with
    | false =>
      go_enter Tryd.func45, Tryd.ntmps45
      go_wp2_with (first | (refine wl_box s (by kernel_rfl) ?_) | fail)
      refine (C1.out _).mono ?_
      rintro e w1 ⟨rfl, rfl⟩
      go_wp2_with fail
      go_ret
      exact ⟨rfl, B1.out⟩
    | true =>
      go_enter Tryd.func45, Tryd.ntmps45
      go_wp2_with (first | (refine wl_box s (by kernel_rfl) ?_) | fail)
      refine (C1.out _).mono ?_
      rintro e w1 ⟨rfl, rfl⟩
      go_wp2_with fail
      refine (C2.out _).mono ?_
      rintro e w1 ⟨rfl, rfl⟩
      go_wp2_with fail
      go_ret
      exact ⟨rfl, B1.out⟩
  · have k0 : (w.alloc (sgO s)).cell? ⟨w.heap.size, 0, none⟩ = some (.int .i64 7) := by have := HN.cell (j := 0) (v := .int .i64 s.kind) rfl; rw [h] at this; exact this
    have k15 := HN.cell (j := 15) (v := .int .i64 s.c0) rfl
    have k16 := HN.cell (j := 16) (v := .int .i64 s.c1) rfl
    have HR : rngB s = ((chkC (s.c0, s.c1) == 0)) := by unfold rngB; rw [if_neg (by omega), if_neg (by omega), if_neg (by omega), if_neg (by omega), if_pos h]
    have C := Lib.hid (cchk_any (s.c0, s.c1) _ T1.out)
    rw [HR]
    clear HN HR h T T1
    generalize chkC (s.c0, s.c1) = E at *
    go_enter Tryd.func45, Tryd.ntmps45
    go_wp2_with (first | (refine wl_box s (by kernel_rfl) ?_) | fail)
    refine C.out.mono ?_
    rintro e w1 ⟨rfl, hb⟩
    replace B1 := Lib.hid (w_below B1.out hb)
    clear hb C k0 k15 k16 HL
    go_wp2_with fail
    go_ret
    exact ⟨rfl, B1.out⟩
  · have k0 : (w.alloc (sgO s)).cell? ⟨w.heap.size, 0, none⟩ = some (.int .i64 8) := by have := HN.cell (j := 0) (v := .int .i64 s.kind) rfl; rw [h] at this; exact this
    have k13 := HN.cell (j := 13) (v := .int .i64 s.n) rfl
    have HR : rngB s = (inB s.n 0 2) := by unfold rngB; rw [if_neg (by omega), if_neg (by omega), if_neg (by omega), if_neg (by omega), if_neg (by omega), if_pos h]
    have C := Lib.hid (fun W => pfrom_any s.n 0 2 W)
    rw [HR]
    clear HN HR h T T1
    generalize inB s.n 0 2 = b at *
    go_enter Tryd.func45, Tryd.ntmps45
    go_wp2_with (first | (refine wl_box s (by kernel_rfl) ?_) | fail)
    refine (C.out _).mono ?_
    rintro e w1 ⟨rfl, rfl⟩
    go_wp2_with fail
    go_ret
    exact ⟨rfl, B1.out⟩
  · have k0 : (w.alloc (sgO s)).cell? ⟨w.heap.size, 0, none⟩ = some (.int .i64 9) := by have := HN.cell (j := 0) (v := .int .i64 s.kind) rfl; rw [h] at this; exact this
    have HR : rngB s = (true) := by unfold rngB; rw [if_neg (by omega), if_neg (by omega), if_neg (by omega), if_neg (by omega), if_neg (by omega), if_neg (by omega), if_neg (by omega)]
    rw [HR]
    clear HN HR h T T1
    go_enter Tryd.func45, Tryd.ntmps45
    go_wp2_with (first | (refine wl_box s (by kernel_rfl) ?_) | fail)
    go_ret
    exact ⟨rfl, B1.out⟩
  · have k0 : (w.alloc (sgO s)).cell? ⟨w.heap.size, 0, none⟩ = some (.int .i64 10) := by have := HN.cell (j := 0) (v := .int .i64 s.kind) rfl; rw [h] at this; exact this
    have k13 := HN.cell (j := 13) (v := .int .i64 s.n) rfl
    have HR : rngB s = (inB s.n 2 4) := by unfold rngB; rw [if_neg (by omega), if_neg (by omega), if_neg (by omega), if_neg (by omega), if_neg (by omega), if_neg (by omega), if_pos h]
    have C := Lib.hid (fun W => pfrom_any s.n 2 4 W)
    rw [HR]
    clear HN HR h T T1
    generalize inB s.n 2 4 = b at *
    go_enter Tryd.func45, Tryd.ntmps45
    go_wp2_with (first | (refine wl_box s (by kernel_rfl) ?_) | fail)
    refine (C.out _).mono ?_
    rintro e w1 ⟨rfl, rfl⟩
    go_wp2_with fail
    go_ret
    exact ⟨rfl, B1.out⟩
  · have k0 : (w.alloc (sgO s)).cell? ⟨w.heap.size, 0, none⟩ = some (.int .i64 11) := by have := HN.cell (j := 0) (v := .int .i64 s.kind) rfl; rw [h] at this; exact this
    have HR : rngB s = (true) := by unfold rngB; rw [if_neg (by omega), if_neg (by omega), if_neg (by omega), if_neg (by omega), if_neg (by omega), if_neg (by omega), if_neg (by omega)]
    rw [HR]
    clear HN HR h T T1
    go_enter Tryd.func45, Tryd.ntmps45
    go_wp2_with (first | (refine wl_box s (by kernel_rfl) ?_) | fail)
    go_ret
    exact ⟨rfl, B1.out⟩
  · have k0 : (w.alloc (sgO s)).cell? ⟨w.heap.size, 0, none⟩ = some (.int .i64 12) := by have := HN.cell (j := 0) (v := .int .i64 s.kind) rfl; rw [h] at this; exact this
    have HR : rngB s = (true) := by unfold rngB; rw [if_neg (by omega), if_neg (by omega), if_neg (by omega), if_neg (by omega), if_neg (by omega), if_neg (by omega), if_neg (by omega)]
    rw [HR]
    clear HN HR h T T1
    go_enter Tryd.func45, Tryd.ntmps45
    go_wp2_with (first | (refine wl_box s (by kernel_rfl) ?_) | fail)
    go_ret
    exact ⟨rfl, B1.out⟩

end Go.Proofs.YtcomjcflllfobaaDoor
