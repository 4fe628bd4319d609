/- The full duration of a sign, of the program and of the reference. -/
import Derived.Test.YtcomjcflllfobaaDoorSProgD
import Derived.Test.YtcomjcflllfobaaDoorSRefE
namespace Go.Proofs.YtcomjcflllfobaaDoor
open Go.RowKit

def plnV (q : Q4) (s : Sg) : Int × Int × Int := if ¬ okM q then (0, 0, 12) else if oneE s ≠ 0 then (0, 0, oneE s) else if s.kind ≠ 1 ∧ s.kind ≠ 2 then (0, 0, 8) else fulV q s.val
theorem pln_mens {q : Q4} {s : Sg} (h : ¬ okM q) : plnV q s = (0, 0, 12) := if_pos h
theorem pln_one {q : Q4} {s : Sg} (h : okM q) (k : oneE s ≠ 0) : plnV q s = (0, 0, oneE s) := by unfold plnV; rw [if_neg (fun x => x h), if_pos k]
theorem pln_kind {q : Q4} {s : Sg} (h : okM q) (k : oneE s = 0) (g : s.kind ≠ 1 ∧ s.kind ≠ 2) : plnV q s = (0, 0, 8) := by unfold plnV; rw [if_neg (fun x => x h), if_neg (fun x => x k), if_pos g]
theorem pln_ok {q : Q4} {s : Sg} (h : okM q) (k : oneE s = 0) (g : ¬ (s.kind ≠ 1 ∧ s.kind ≠ 2)) : plnV q s = fulV q s.val := by unfold plnV; rw [if_neg (fun x => x h), if_neg (fun x => x k), if_neg g]
abbrev tmO : Obj := .cells #[.int .i64 0, .int .i64 0] 32
/-- What stands in memory while a full duration is reckoned. -/
structure PlnX (w y : World) (q : Q4) (s : Sg) : Prop where
  m : Cell4 y w.heap.size q
  s : SgAt y (w.heap.size + 1) 0 s
  t : Own2 y (w.heap.size + 1 + 1) 0 0
  b : Below w.heap.size w y
theorem PlnX.later {w y z : World} {q : Q4} {s : Sg} (h : PlnX w y q s) (k : Below y.heap.size y z) : PlnX w z q s := ⟨h.m.later k, h.s.later k, h.t.later k, w_below h.b k⟩
theorem PlnX.start (w : World) (q : Q4) (s : Sg) : PlnX w (((w.alloc (mO q)).alloc (sgO s)).alloc tmO) q s := by
  refine ⟨((Cell4.made w q 23).later (w_alloc (w_refl _) _)).later (w_alloc (w_refl _) _), ?_, ?_, w_alloc (w_alloc (w_alloc (w_refl w) _) _) _⟩
  · have := ((sg_new (w.alloc (mO q)) s).al tmO).sg
    rwa [World.size_alloc] at this
  · have := Own2.made ((w.alloc (mO q)).alloc (sgO s)) 0 0 32
    rwa [World.size_alloc, World.size_alloc] at this

set_option maxRecDepth 100000 in
set_option maxHeartbeats 8000000 in
theorem ppln_any (q : Q4) (s : Sg) (w : World) (T : TabS w) : Calls Tryd.prog 12 #[mv q, sgv s] w fun e w' => e = .returned (tev (plnV q s)) ∧ Below w.heap.size w w' := by
  have FX := Lib.hid (PlnX.start w q s)
  have CM := Lib.hid (fun W => mcheck_any q W)
  have CO := Lib.hid (show ∀ W, Below w.heap.size w W → Calls Tryd.prog 14 #[sgv s] W fun e w' => e = .returned (.int .i64 (oneE s)) ∧ Below W.heap.size W w' from fun W b => pone_any s W (T.later b))
  clear T
  have CF := Lib.hid (fun W => full_any q s.val W)
  by_cases hq : okM q
  case neg =>
    rw [pln_mens hq]
    rw [chkM_no hq] at CM
    clear hq CO CF
    obtain ⟨a, b, c, d⟩ := q
    go_enter Tryd.func12, Tryd.ntmps12
    go_upto_region 1 with (first | (refine wl_box s (by kernel_rfl) ?_) | fail)
    generalize ((w.alloc (mO (a, b, c, d))).alloc (sgO s)).alloc tmO = y at *
    obtain ⟨_, c0, c1, c2, c3, _, _, _, _⟩ := FX.out.m
    go_wp2_with fail
    refine (CM.out _).mono ?_
    rintro e w9 ⟨rfl, hb⟩
    replace FX := Lib.hid (FX.out.later hb)
    clear hb CM
    clear c0 c1 c2 c3
    obtain ⟨_, o0, o1, g0, g1⟩ := FX.out.t
    obtain ⟨d0, d1⟩ := time_put FX.out.t 0 0
    go_wp2_with fail
    refine bodyPost_ret (v := tev (0, 0, 12)) (by simp [results, Tryd.results12, go_sem, d0, d1]) rfl ⟨rfl, ?_⟩
    exact w_put (b := w.heap.size + 1 + 1) (w_put (b := w.heap.size + 1 + 1) FX.out.b (by omega) _ _) (by omega) _ _
  rw [chkM_ok hq] at CM
  by_cases ho : oneE s = 0
  case neg =>
    rw [pln_one hq ho]
    have e1 : (oneE s == 0) = false := beq_eq_false_iff_ne.2 ho
    have e2 : (oneE s != 0) = true := by simp [ho]
    clear hq ho CF
    generalize oneE s = E at *
    obtain ⟨a, b, c, d⟩ := q
    go_enter Tryd.func12, Tryd.ntmps12
    go_upto_region 1 with (first | (refine wl_box s (by kernel_rfl) ?_) | fail)
    generalize ((w.alloc (mO (a, b, c, d))).alloc (sgO s)).alloc tmO = y at *
    obtain ⟨_, c0, c1, c2, c3, _, _, _, _⟩ := FX.out.m
    go_wp2_with fail
    refine (CM.out _).mono ?_
    rintro e w9 ⟨rfl, hb⟩
    replace FX := Lib.hid (FX.out.later hb)
    clear hb CM
    clear c0 c1 c2 c3
    go_wp2_with (first | (refine wl_load (w.heap.size + 1) 0 s (by kernel_rfl) FX.out.s ?_) | fail)
    refine (CO.out _ FX.out.b).mono ?_
    rintro e w9 ⟨rfl, hb⟩
    replace FX := Lib.hid (FX.out.later hb)
    clear hb CO
    obtain ⟨_, o0, o1, g0, g1⟩ := FX.out.t
    obtain ⟨d0, d1⟩ := time_put FX.out.t 0 0
    go_wp2_with fail
    refine bodyPost_ret (v := tev (0, 0, E)) (by simp [results, Tryd.results12, go_sem, d0, d1]) rfl ⟨rfl, ?_⟩
    exact w_put (b := w.heap.size + 1 + 1) (w_put (b := w.heap.size + 1 + 1) FX.out.b (by omega) _ _) (by omega) _ _
  rw [ho] at CO
  by_cases hk : s.kind ≠ 1 ∧ s.kind ≠ 2
  case pos =>
    rw [pln_kind hq ho hk]
    have q1 : (s.kind != 1) = true := by simp [hk.1]
    have q2 : (s.kind != 2) = true := by simp [hk.2]
    clear hq ho hk CF
    obtain ⟨a, b, c, d⟩ := q
    go_enter Tryd.func12, Tryd.ntmps12
    go_upto_region 1 with (first | (refine wl_box s (by kernel_rfl) ?_) | fail)
    generalize ((w.alloc (mO (a, b, c, d))).alloc (sgO s)).alloc tmO = y at *
    obtain ⟨_, c0, c1, c2, c3, _, _, _, _⟩ := FX.out.m
    go_wp2_with fail
    refine (CM.out _).mono ?_
    rintro e w9 ⟨rfl, hb⟩
    replace FX := Lib.hid (FX.out.later hb)
    clear hb CM
    clear c0 c1 c2 c3
    go_wp2_with (first | (refine wl_load (w.heap.size + 1) 0 s (by kernel_rfl) FX.out.s ?_) | fail)
    refine (CO.out _ FX.out.b).mono ?_
    rintro e w9 ⟨rfl, hb⟩
    replace FX := Lib.hid (FX.out.later hb)
    clear hb CO
    have k0 := FX.out.s.e0
    obtain ⟨_, o0, o1, g0, g1⟩ := FX.out.t
    obtain ⟨d0, d1⟩ := time_put FX.out.t 0 0
    go_wp2_with fail
    refine bodyPost_ret (v := tev (0, 0, 8)) (by simp [results, Tryd.results12, go_sem, d0, d1]) rfl ⟨rfl, ?_⟩
    exact w_put (b := w.heap.size + 1 + 1) (w_put (b := w.heap.size + 1 + 1) FX.out.b (by omega) _ _) (by omega) _ _
  rw [pln_ok hq ho hk]
  generalize hR : fulV q s.val = R at *
  obtain ⟨M, D, E⟩ := R
  clear hR hq ho
  have ways : (s.kind != 1) = false ∨ ((s.kind != 1) = true ∧ (s.kind != 2) = false) := by
    by_cases h1 : s.kind = 1
    · exact .inl (by simp [h1])
    · refine .inr ⟨by simp [h1], ?_⟩
      by_cases h2 : s.kind = 2
      · simp [h2]
      · exact absurd ⟨h1, h2⟩ hk
  clear hk
  rcases ways with q1 | ⟨q1, q2⟩
  all_goals
    obtain ⟨a, b, c, d⟩ := q
    go_enter Tryd.func12, Tryd.ntmps12
    go_upto_region 1 with (first | (refine wl_box s (by kernel_rfl) ?_) | fail)
    generalize ((w.alloc (mO (a, b, c, d))).alloc (sgO s)).alloc tmO = y at *
    obtain ⟨_, c0, c1, c2, c3, _, _, _, _⟩ := FX.out.m
    go_wp2_with fail
    refine (CM.out _).mono ?_
    rintro e w9 ⟨rfl, hb⟩
    replace FX := Lib.hid (FX.out.later hb)
    clear hb CM
    clear c0 c1 c2 c3
    go_wp2_with (first | (refine wl_load (w.heap.size + 1) 0 s (by kernel_rfl) FX.out.s ?_) | fail)
    refine (CO.out _ FX.out.b).mono ?_
    rintro e w9 ⟨rfl, hb⟩
    replace FX := Lib.hid (FX.out.later hb)
    clear hb CO
    obtain ⟨_, c0, c1, c2, c3, _, _, _, _⟩ := FX.out.m
    have k0 := FX.out.s.e0
    have k1 := FX.out.s.e1
    go_wp2_with fail
    refine (CF.out _).mono ?_
    rintro e w9 ⟨rfl, hb⟩
    replace FX := Lib.hid (FX.out.later hb)
    clear hb CF
    clear c0 c1 c2 c3 k0 k1
    obtain ⟨_, o0, o1, g0, g1⟩ := FX.out.t
    obtain ⟨d0, d1⟩ := time_put FX.out.t M D
    go_wp2_with fail
    refine bodyPost_ret (v := tev (M, D, E)) (by simp [results, Tryd.results12, go_sem, d0, d1]) rfl ⟨rfl, ?_⟩
    exact w_put (b := w.heap.size + 1 + 1) (w_put (b := w.heap.size + 1 + 1) FX.out.b (by omega) _ _) (by omega) _ _

set_option maxRecDepth 100000 in
set_option maxHeartbeats 8000000 in
theorem rpln_any (q : Q4) (s : Sg) (w : World) : Calls Tryd.prog 13 #[mv q, sgv s] w fun e w' => e = .returned (tev (plnV q s)) ∧ Below w.heap.size w w' := by
  have FX := Lib.hid (PlnX.start w q s)
  have CM := Lib.hid (fun W => rmcheck_any q W)
  have CO := Lib.hid (fun W => rone_any s W)
  have CF := Lib.hid (fun W => rfull_any q s.val W)
  by_cases hq : okM q
  case neg =>
    rw [pln_mens hq]
    rw [chkM_no hq] at CM
    clear hq CO CF
    obtain ⟨a, b, c, d⟩ := q
    go_enter Tryd.func13, Tryd.ntmps13
    go_upto_region 1 with (first | (refine wl_box s (by kernel_rfl) ?_) | fail)
    generalize ((w.alloc (mO (a, b, c, d))).alloc (sgO s)).alloc tmO = y at *
    obtain ⟨_, c0, c1, c2, c3, _, _, _, _⟩ := FX.out.m
    go_wp2_with fail
    refine (CM.out _).mono ?_
    rintro e w9 ⟨rfl, hb⟩
    replace FX := Lib.hid (FX.out.later hb)
    clear hb CM
    clear c0 c1 c2 c3
    obtain ⟨_, o0, o1, g0, g1⟩ := FX.out.t
    obtain ⟨d0, d1⟩ := time_put FX.out.t 0 0
    go_wp2_with fail
    refine bodyPost_ret (v := tev (0, 0, 12)) (by simp [results, Tryd.results13, go_sem, d0, d1]) rfl ⟨rfl, ?_⟩
    exact w_put (b := w.heap.size + 1 + 1) (w_put (b := w.heap.size + 1 + 1) FX.out.b (by omega) _ _) (by omega) _ _
  rw [chkM_ok hq] at CM
  by_cases ho : oneE s = 0
  case neg =>
    rw [pln_one hq ho]
    have e1 : (oneE s == 0) = false := beq_eq_false_iff_ne.2 ho
    have e2 : (oneE s != 0) = true := by simp [ho]
    clear hq ho CF
    generalize oneE s = E at *
    obtain ⟨a, b, c, d⟩ := q
    go_enter Tryd.func13, Tryd.ntmps13
    go_upto_region 1 with (first | (refine wl_box s (by kernel_rfl) ?_) | fail)
    generalize ((w.alloc (mO (a, b, c, d))).alloc (sgO s)).alloc tmO = y at *
    obtain ⟨_, c0, c1, c2, c3, _, _, _, _⟩ := FX.out.m
    go_wp2_with fail
    refine (CM.out _).mono ?_
    rintro e w9 ⟨rfl, hb⟩
    replace FX := Lib.hid (FX.out.later hb)
    clear hb CM
    clear c0 c1 c2 c3
    go_wp2_with (first | (refine wl_load (w.heap.size + 1) 0 s (by kernel_rfl) FX.out.s ?_) | fail)
    refine (CO.out _).mono ?_
    rintro e w9 ⟨rfl, hb⟩
    replace FX := Lib.hid (FX.out.later hb)
    clear hb CO
    obtain ⟨_, o0, o1, g0, g1⟩ := FX.out.t
    obtain ⟨d0, d1⟩ := time_put FX.out.t 0 0
    go_wp2_with fail
    refine bodyPost_ret (v := tev (0, 0, E)) (by simp [results, Tryd.results13, go_sem, d0, d1]) rfl ⟨rfl, ?_⟩
    exact w_put (b := w.heap.size + 1 + 1) (w_put (b := w.heap.size + 1 + 1) FX.out.b (by omega) _ _) (by omega) _ _
  rw [ho] at CO
  by_cases hk : s.kind ≠ 1 ∧ s.kind ≠ 2
  case pos =>
    rw [pln_kind hq ho hk]
    have q1 : (s.kind != 1) = true := by simp [hk.1]
    have q2 : (s.kind != 2) = true := by simp [hk.2]
    clear hq ho hk CF
    obtain ⟨a, b, c, d⟩ := q
    go_enter Tryd.func13, Tryd.ntmps13
    go_upto_region 1 with (first | (refine wl_box s (by kernel_rfl) ?_) | fail)
    generalize ((w.alloc (mO (a, b, c, d))).alloc (sgO s)).alloc tmO = y at *
    obtain ⟨_, c0, c1, c2, c3, _, _, _, _⟩ := FX.out.m
    go_wp2_with fail
    refine (CM.out _).mono ?_
    rintro e w9 ⟨rfl, hb⟩
    replace FX := Lib.hid (FX.out.later hb)
    clear hb CM
    clear c0 c1 c2 c3
    go_wp2_with (first | (refine wl_load (w.heap.size + 1) 0 s (by kernel_rfl) FX.out.s ?_) | fail)
    refine (CO.out _).mono ?_
    rintro e w9 ⟨rfl, hb⟩
    replace FX := Lib.hid (FX.out.later hb)
    clear hb CO
    have k0 := FX.out.s.e0
    obtain ⟨_, o0, o1, g0, g1⟩ := FX.out.t
    obtain ⟨d0, d1⟩ := time_put FX.out.t 0 0
    go_wp2_with fail
    refine bodyPost_ret (v := tev (0, 0, 8)) (by simp [results, Tryd.results13, go_sem, d0, d1]) rfl ⟨rfl, ?_⟩
    exact w_put (b := w.heap.size + 1 + 1) (w_put (b := w.heap.size + 1 + 1) FX.out.b (by omega) _ _) (by omega) _ _
  rw [pln_ok hq ho hk]
  generalize hR : fulV q s.val = R at *
  obtain ⟨M, D, E⟩ := R
  clear hR hq ho
  have ways : (s.kind != 1) = false ∨ ((s.kind != 1) = true ∧ (s.kind != 2) = false) := by
    by_cases h1 : s.kind = 1
    · exact .inl (by simp [h1])
    · refine .inr ⟨by simp [h1], ?_⟩
      by_cases h2 : s.kind = 2
      · simp [h2]
      · exact absurd ⟨h1, h2⟩ hk
  clear hk
  rcases ways with q1 | ⟨q1, q2⟩
  all_goals
    obtain ⟨a, b, c, d⟩ := q
    go_enter Tryd.func13, Tryd.ntmps13
    go_upto_region 1 with (first | (refine wl_box s (by kernel_rfl) ?_) | fail)
    generalize ((w.alloc (mO (a, b, c, d))).alloc (sgO s)).alloc tmO = y at *
    obtain ⟨_, c0, c1, c2, c3, _, _, _, _⟩ := FX.out.m
    go_wp2_with fail
    refine (CM.out _).mono ?_
    rintro e w9 ⟨rfl, hb⟩
    replace FX := Lib.hid (FX.out.later hb)
    clear hb CM
    clear c0 c1 c2 c3
    go_wp2_with (first | (refine wl_load (w.heap.size + 1) 0 s (by kernel_rfl) FX.out.s ?_) | fail)
    refine (CO.out _).mono ?_
    rintro e w9 ⟨rfl, hb⟩
    replace FX := Lib.hid (FX.out.later hb)
    clear hb CO
    obtain ⟨_, c0, c1, c2, c3, _, _, _, _⟩ := FX.out.m
    have k0 := FX.out.s.e0
    have k1 := FX.out.s.e1
    go_wp2_with fail
    refine (CF.out _).mono ?_
    rintro e w9 ⟨rfl, hb⟩
    replace FX := Lib.hid (FX.out.later hb)
    clear hb CF
    clear c0 c1 c2 c3 k0 k1
    obtain ⟨_, o0, o1, g0, g1⟩ := FX.out.t
    obtain ⟨d0, d1⟩ := time_put FX.out.t M D
    go_wp2_with fail
    refine bodyPost_ret (v := tev (M, D, E)) (by simp [results, Tryd.results13, go_sem, d0, d1]) rfl ⟨rfl, ?_⟩
    exact w_put (b := w.heap.size + 1 + 1) (w_put (b := w.heap.size + 1 + 1) FX.out.b (by omega) _ _) (by omega) _ _

end Go.Proofs.YtcomjcflllfobaaDoor
