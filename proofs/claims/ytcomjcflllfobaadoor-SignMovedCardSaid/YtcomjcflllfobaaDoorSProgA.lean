/- The program's small tests of a sign, and what is kept of it. -/
import Derived.Test.YtcomjcflllfobaaDoorSSpec
import Derived.WalkSmall
namespace Go.Proofs.YtcomjcflllfobaaDoor
open Go.RowKit
attribute [local go_sem] sgA_g0 sgA_g1 sgA_g2 sgA_g3 sgA_g4 sgA_g5 sgA_g6 sgA_g7 sgA_g8 sgA_g9 sgA_g10 sgA_g11 sgA_g12 sgA_g13 sgA_g14 sgA_g15 sgA_g16

theorem pfrom_any (n lo hi : Int) (w : World) : Calls Tryd.prog 73 #[.int .i64 n, .int .i64 lo, .int .i64 hi] w fun e w' => e = .returned (.bool (inB n lo hi)) ∧ w = w' := by
  unfold inB
  by_cases h : lo ≤ n
  · by_cases k : n ≤ hi
    · rw [decide_eq_true ⟨h, k⟩]
      go_enter Tryd.func73, Tryd.ntmps73
      go_wp2_with fail
      go_ret
      exact ⟨rfl, rfl⟩
    · rw [decide_eq_false (fun g => k g.2)]
      go_enter Tryd.func73, Tryd.ntmps73
      go_wp2_with fail
      go_ret
      exact ⟨rfl, rfl⟩
  · rw [decide_eq_false (fun g => h g.1)]
    go_enter Tryd.func73, Tryd.ntmps73
    go_wp2_with fail
    go_ret
    exact ⟨rfl, rfl⟩

theorem rbtw_any (n lo hi : Int) (w : World) : Calls Tryd.prog 75 #[.int .i64 n, .int .i64 lo, .int .i64 hi] w fun e w' => e = .returned (.bool (inB n lo hi)) ∧ w = w' := by
  unfold inB
  by_cases h : lo ≤ n
  · by_cases k : n ≤ hi
    · rw [decide_eq_true ⟨h, k⟩]
      go_enter Tryd.func75, Tryd.ntmps75
      go_wp2_with fail
      go_ret
      exact ⟨rfl, rfl⟩
    · rw [decide_eq_false (fun g => k g.2)]
      go_enter Tryd.func75, Tryd.ntmps75
      go_wp2_with fail
      go_ret
      exact ⟨rfl, rfl⟩
  · rw [decide_eq_false (fun g => h g.1)]
    go_enter Tryd.func75, Tryd.ntmps75
    go_wp2_with fail
    go_ret
    exact ⟨rfl, rfl⟩

theorem pval_any (n : Int) (w : World) : Calls Tryd.prog 71 #[.int .i64 n] w fun e w' => e = .returned (.bool (inB n 1 8)) ∧ w = w' := by
  have C := Lib.hid (fun W => pfrom_any n 1 8 W)
  generalize inB n 1 8 = b at *
  go_enter Tryd.func71, Tryd.ntmps71
  go_wp2_with fail
  refine (C.out _).mono ?_
  rintro e w1 ⟨rfl, rfl⟩
  go_wp2_with fail
  go_ret
  exact ⟨rfl, rfl⟩

set_option maxRecDepth 100000 in
theorem pplc_any (s : Sg) (w : World) : Calls Tryd.prog 72 #[sgv s] w fun e w' => e = .returned (.bool (plcB s)) ∧ Below w.heap.size w w' := by
  have HN := sg_new w s
  have B1 := Lib.hid (w_alloc (w_refl w) (sgO s))
  have k2 := HN.cell (j := 2) (v := .int .i64 s.place) rfl
  have k3 := HN.cell (j := 3) (v := .int .i64 s.acc) rfl
  have C1 := Lib.hid (fun W => pfrom_any s.place (-4) 12 W)
  have C2 := Lib.hid (fun W => pfrom_any s.acc (-1) 2 W)
  have HP := Lib.hid (show plcB s = (inB s.place (-4) 12 && inB s.acc (-1) 2) from rfl)
  clear HN
  generalize plcB s = PL at *
  generalize inB s.place (-4) 12 = b1 at *
  generalize inB s.acc (-1) 2 = b2 at *
  cases b1 with
  | true =>
    go_enter Tryd.func72, Tryd.ntmps72
    go_wp2_with (first | (refine wl_box s (by kernel_rfl) ?_) | fail)
    refine (C1.out _).mono ?_
    rintro e w1 ⟨rfl, rfl⟩
    go_wp2_with fail
    refine (C2.out _).mono ?_
    rintro e w1 ⟨rfl, rfl⟩
    go_wp2_with fail
    go_ret
    exact ⟨by rw [HP.out]; rfl, B1.out⟩
  | false =>
    go_enter Tryd.func72, Tryd.ntmps72
    go_wp2_with (first | (refine wl_box s (by kernel_rfl) ?_) | fail)
    refine (C1.out _).mono ?_
    rintro e w1 ⟨rfl, rfl⟩
    go_wp2_with fail
    go_ret
    exact ⟨by rw [HP.out]; rfl, B1.out⟩

theorem keepi_any (b : Bool) (x : Int) (w : World) : Calls Tryd.prog 67 #[.bool b, .int .i64 x] w fun e w' => e = .returned (.int .i64 (kp b x)) ∧ w = w' := by
  cases b
  all_goals
    unfold kp
    go_enter Tryd.func67, Tryd.ntmps67
    go_wp2_with fail
    go_ret
    exact ⟨rfl, rfl⟩
theorem keepb_any (b x : Bool) (w : World) : Calls Tryd.prog 68 #[.bool b, .bool x] w fun e w' => e = .returned (.bool (kpB b x)) ∧ w = w' := by
  cases b
  all_goals
    unfold kpB
    go_enter Tryd.func68, Tryd.ntmps68
    go_wp2_with fail
    go_ret
    exact ⟨rfl, rfl⟩
abbrev kpM (b : Bool) (q : Q4) : Q4 := (kp b q.1, kp b q.2.1, kp b q.2.2.1, kp b q.2.2.2)
abbrev kpC (b : Bool) (c : Cl) : Cl := (kp b c.1, kp b c.2)
set_option maxHeartbeats 1000000 in
theorem keepm_any (b : Bool) (q : Q4) (w : World) : Calls Tryd.prog 69 #[.bool b, mv q] w fun e w' => e = .returned (mv (kpM b q)) ∧ Below w.heap.size w w' := by
  obtain ⟨a, c, d, g⟩ := q
  cases b
  · go_enter Tryd.func69, Tryd.ntmps69
    go_wp2_with fail
    refine bodyPost_ret (v := mv (0, 0, 0, 0)) (by simp [results, Tryd.results69, go_sem]) rfl ⟨rfl, ?_⟩
    exact w_alloc (w_alloc (w_alloc (w_refl w) _) _) _
  · go_enter Tryd.func69, Tryd.ntmps69
    go_wp2_with fail
    refine bodyPost_ret (v := mv (a, c, d, g)) (by simp [results, Tryd.results69, go_sem]) rfl ⟨rfl, ?_⟩
    exact w_alloc (w_alloc (w_alloc (w_refl w) _) _) _
set_option maxHeartbeats 1000000 in
theorem keepc_any (b : Bool) (c : Cl) (w : World) : Calls Tryd.prog 70 #[.bool b, cv c] w fun e w' => e = .returned (cv (kpC b c)) ∧ Below w.heap.size w w' := by
  obtain ⟨a, d⟩ := c
  cases b
  · go_enter Tryd.func70, Tryd.ntmps70
    go_wp2_with fail
    refine bodyPost_ret (v := cv (0, 0)) (by simp [results, Tryd.results70, go_sem]) rfl ⟨rfl, ?_⟩
    exact w_alloc (w_alloc (w_alloc (w_refl w) _) _) _
  · go_enter Tryd.func70, Tryd.ntmps70
    go_wp2_with fail
    refine bodyPost_ret (v := cv (a, d)) (by simp [results, Tryd.results70, go_sem]) rfl ⟨rfl, ?_⟩
    exact w_alloc (w_alloc (w_alloc (w_refl w) _) _) _

set_option maxRecDepth 100000 in
set_option maxHeartbeats 4000000 in
theorem pof_any (f : Fd) (s : Sg) (w : World) : Calls Tryd.prog 44 #[fdv f, sgv s] w fun e w' => e = .returned (sgv (keepS f s)) ∧ Below w.heap.size w w' := by
  have H2 := Lib.hid ((((fd_new w f).al (sgO s)).al zO))
  have H3 := Lib.hid ((sg_new (w.alloc (fdO f)) s).al zO)
  have H4 := Lib.hid (show HoldsB (((w.alloc (fdO f)).alloc (sgO s)).alloc zO) ((w.alloc (fdO f)).alloc (sgO s)).heap.size 27 (sgA zS) from HoldsB.new _ _ _)
  have B4 := Lib.hid (w_alloc (w_alloc (w_alloc (w_refl w) (fdO f)) (sgO s)) zO)
  rw [World.size_alloc] at H3
  rw [World.size_alloc, World.size_alloc] at H4
  go_enter Tryd.func44, Tryd.ntmps44
  go_wp2_with (first | (refine wl_boxF f (by kernel_rfl) ?_) | (refine wl_box s (by kernel_rfl) ?_) | fail)
  generalize ((w.alloc (fdO f)).alloc (sgO s)).alloc zO = y at *
  refine wp_region_last_lit (by simp) (by kernel_rfl) (by kernel_rfl) (by kernel_rfl) (by kernel_rfl) (by kernel_rfl) (by kernel_rfl) ?_
  simp only [List.dropLast_cons_cons, List.dropLast_singleton, List.getLast_cons_cons, List.getLast_singleton]
  have f0 : ∀ n : Grown y, n.W.cell? ⟨w.heap.size, 0, none⟩ = some (.bool f.fv) := fun n => (H2.out.later n.b).cell (j := 0) rfl
  have f1 : ∀ n : Grown y, n.W.cell? ⟨w.heap.size, 1, none⟩ = some (.bool f.fp) := fun n => (H2.out.later n.b).cell (j := 1) rfl
  have f2 : ∀ n : Grown y, n.W.cell? ⟨w.heap.size, 2, none⟩ = some (.bool f.fa) := fun n => (H2.out.later n.b).cell (j := 2) rfl
  have f3 : ∀ n : Grown y, n.W.cell? ⟨w.heap.size, 3, none⟩ = some (.bool f.fc) := fun n => (H2.out.later n.b).cell (j := 3) rfl
  have f4 : ∀ n : Grown y, n.W.cell? ⟨w.heap.size, 4, none⟩ = some (.bool f.fs) := fun n => (H2.out.later n.b).cell (j := 4) rfl
  have f5 : ∀ n : Grown y, n.W.cell? ⟨w.heap.size, 5, none⟩ = some (.bool f.fo) := fun n => (H2.out.later n.b).cell (j := 5) rfl
  have f6 : ∀ n : Grown y, n.W.cell? ⟨w.heap.size, 6, none⟩ = some (.bool f.fl) := fun n => (H2.out.later n.b).cell (j := 6) rfl
  have f7 : ∀ n : Grown y, n.W.cell? ⟨w.heap.size, 7, none⟩ = some (.bool f.fm) := fun n => (H2.out.later n.b).cell (j := 7) rfl
  have f8 : ∀ n : Grown y, n.W.cell? ⟨w.heap.size, 8, none⟩ = some (.bool f.fk) := fun n => (H2.out.later n.b).cell (j := 8) rfl
  have f9 : ∀ n : Grown y, n.W.cell? ⟨w.heap.size, 9, none⟩ = some (.bool f.fn) := fun n => (H2.out.later n.b).cell (j := 9) rfl
  have f10 : ∀ n : Grown y, n.W.cell? ⟨w.heap.size, 10, none⟩ = some (.bool f.fd) := fun n => (H2.out.later n.b).cell (j := 10) rfl
  have f11 : ∀ n : Grown y, n.W.cell? ⟨w.heap.size, 11, none⟩ = some (.bool f.fC) := fun n => (H2.out.later n.b).cell (j := 11) rfl
  have g0 : ∀ n : Grown y, n.W.cell? ⟨w.heap.size + 1, 0, none⟩ = some (.int .i64 s.kind) := fun n => (H3.out.later n.b).cell (j := 0) rfl
  have g1 : ∀ n : Grown y, n.W.cell? ⟨w.heap.size + 1, 1, none⟩ = some (.int .i64 s.val) := fun n => (H3.out.later n.b).cell (j := 1) rfl
  have g2 : ∀ n : Grown y, n.W.cell? ⟨w.heap.size + 1, 2, none⟩ = some (.int .i64 s.place) := fun n => (H3.out.later n.b).cell (j := 2) rfl
  have g3 : ∀ n : Grown y, n.W.cell? ⟨w.heap.size + 1, 3, none⟩ = some (.int .i64 s.acc) := fun n => (H3.out.later n.b).cell (j := 3) rfl
  have g4 : ∀ n : Grown y, n.W.cell? ⟨w.heap.size + 1, 4, none⟩ = some (.bool s.col) := fun n => (H3.out.later n.b).cell (j := 4) rfl
  have g5 : ∀ n : Grown y, n.W.cell? ⟨w.heap.size + 1, 5, none⟩ = some (.int .i64 s.stem) := fun n => (H3.out.later n.b).cell (j := 5) rfl
  have g6 : ∀ n : Grown y, n.W.cell? ⟨w.heap.size + 1, 6, none⟩ = some (.bool s.obl) := fun n => (H3.out.later n.b).cell (j := 6) rfl
  have g7 : ∀ n : Grown y, n.W.cell? ⟨w.heap.size + 1, 7, none⟩ = some (.bool s.last) := fun n => (H3.out.later n.b).cell (j := 7) rfl
  have g8 : ∀ n : Grown y, n.W.cell? ⟨w.heap.size + 1, 8, none⟩ = some (.int .i64 s.m0) := fun n => (H3.out.later n.b).cell (j := 8) rfl
  have g9 : ∀ n : Grown y, n.W.cell? ⟨w.heap.size + 1, 9, none⟩ = some (.int .i64 s.m1) := fun n => (H3.out.later n.b).cell (j := 9) rfl
  have g10 : ∀ n : Grown y, n.W.cell? ⟨w.heap.size + 1, 10, none⟩ = some (.int .i64 s.m2) := fun n => (H3.out.later n.b).cell (j := 10) rfl
  have g11 : ∀ n : Grown y, n.W.cell? ⟨w.heap.size + 1, 11, none⟩ = some (.int .i64 s.m3) := fun n => (H3.out.later n.b).cell (j := 11) rfl
  have g12 : ∀ n : Grown y, n.W.cell? ⟨w.heap.size + 1, 12, none⟩ = some (.bool s.stk) := fun n => (H3.out.later n.b).cell (j := 12) rfl
  have g13 : ∀ n : Grown y, n.W.cell? ⟨w.heap.size + 1, 13, none⟩ = some (.int .i64 s.n) := fun n => (H3.out.later n.b).cell (j := 13) rfl
  have g14 : ∀ n : Grown y, n.W.cell? ⟨w.heap.size + 1, 14, none⟩ = some (.int .i64 s.d) := fun n => (H3.out.later n.b).cell (j := 14) rfl
  have g15 : ∀ n : Grown y, n.W.cell? ⟨w.heap.size + 1, 15, none⟩ = some (.int .i64 s.c0) := fun n => (H3.out.later n.b).cell (j := 15) rfl
  have g16 : ∀ n : Grown y, n.W.cell? ⟨w.heap.size + 1, 16, none⟩ = some (.int .i64 s.c1) := fun n => (H3.out.later n.b).cell (j := 16) rfl
  have KI := Lib.hid (show ∀ (b : Bool) (x : Int) (n : Grown y), Calls Tryd.prog 67 #[.bool b, .int .i64 x] n.W fun e w' => e = .returned (.int .i64 (kp b x)) ∧ Grew y w' from fun b x n => (keepi_any b x n.W).mono fun e w' ⟨h1, h2⟩ => ⟨h1, n, h2.symm⟩)
  have KB := Lib.hid (show ∀ (b x : Bool) (n : Grown y), Calls Tryd.prog 68 #[.bool b, .bool x] n.W fun e w' => e = .returned (.bool (kpB b x)) ∧ Grew y w' from fun b x n => (keepb_any b x n.W).mono fun e w' ⟨h1, h2⟩ => ⟨h1, n, h2.symm⟩)
  have KM := Lib.hid (show ∀ (b : Bool) (p q r t : Int) (n : Grown y), Calls Tryd.prog 69 #[.bool b, .agg #[.int .i64 p, .int .i64 q, .int .i64 r, .int .i64 t]] n.W fun e w' => e = .returned (.agg #[.int .i64 (kp b p), .int .i64 (kp b q), .int .i64 (kp b r), .int .i64 (kp b t)]) ∧ Grew y w' from fun b p q r t n => (keepm_any b (p, q, r, t) n.W).mono fun e w' ⟨h1, h2⟩ => ⟨h1, n.on h2, rfl⟩)
  have KC := Lib.hid (show ∀ (b : Bool) (p q : Int) (n : Grown y), Calls Tryd.prog 70 #[.bool b, .agg #[.int .i64 p, .int .i64 q]] n.W fun e w' => e = .returned (.agg #[.int .i64 (kp b p), .int .i64 (kp b q)]) ∧ Grew y w' from fun b p q n => (keepc_any b (p, q) n.W).mono fun e w' ⟨h1, h2⟩ => ⟨h1, n.on h2, rfl⟩)
  repeat (go_big_quiet_step ((first | exact KI.out _ _ _ | exact KB.out _ _ _ | exact KM.out _ _ _ _ _ _ | exact KC.out _ _ _ _)))
  refine wpQuiet_nil ?_
  intro n
  refine wl_rowS (w.heap.size + 1 + 1) _ (keepS f s) (H4.out.later n.b) (by kernel_rfl) (by kernel_rfl) rfl ?_
  intro W' h1 h2 h3
  have B5 := Lib.hid (h2 _ _ (w_below B4.out n.b) (by omega))
  clear h2 h3 f0 f1 f2 f3 f4 f5 f6 f7 f8 f9 f10 f11 g0 g1 g2 g3 g4 g5 g6 g7 g8 g9 g10 g11 g12 g13 g14 g15 g16
  go_wp2_with fail
  refine bodyPost_ret (res_sg rfl (by kernel_rfl) h1.sg) rfl ⟨rfl, B5.out⟩

end Go.Proofs.YtcomjcflllfobaaDoor
