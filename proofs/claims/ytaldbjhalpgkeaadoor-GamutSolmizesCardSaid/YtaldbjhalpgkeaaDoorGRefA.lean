/- The reference's pitches of ways, and costs. -/
import Derived.Test.YtaldbjhalpgkeaaDoorGMem
import Derived.Test.YtaldbjhalpgkeaaDoorPRef
namespace Go.Proofs.YtaldbjhalpgkeaaDoor
open Go.RowKit

theorem begin_bd (h : Int) : 0 ≤ beginI h ∧ beginI h ≤ 14 := by
  unfold beginI
  repeat' split
  all_goals omega

set_option maxHeartbeats 1000000 in
theorem rbegin_any (h : Int) (hk : 1 ≤ h ∧ h ≤ 7) (w : World) : Calls Tryd.prog 54 #[.int .i64 h] w fun e w' => e = .returned (.int .i64 (beginI h)) ∧ Below w.heap.size w w' := by
  have c : h = 1 ∨ h = 2 ∨ h = 3 ∨ h = 4 ∨ h = 5 ∨ h = 6 ∨ h = 7 := by omega
  clear hk
  rcases c with rfl | rfl | rfl | rfl | rfl | rfl | rfl
  all_goals
    go_enter Tryd.func54, Tryd.ntmps54
    go_wp2_with fail
    go_ret
    exact ⟨rfl, w_alloc (w_refl w) _⟩

theorem rsoft_any (h : Int) (w : World) : Calls Tryd.prog 64 #[.int .i64 h] w fun e w' => e = .returned (.bool (decide (h = 3 ∨ h = 6))) ∧ Below w.heap.size w w' := by
  by_cases h3 : h = 3
  · subst h3
    go_enter Tryd.func64, Tryd.ntmps64
    go_wp2_with fail
    go_ret
    exact ⟨rfl, w_refl w⟩
  · by_cases h6 : h = 6
    · subst h6
      go_enter Tryd.func64, Tryd.ntmps64
      go_wp2_with fail
      go_ret
      exact ⟨rfl, w_refl w⟩
    · have e : decide (h = 3 ∨ h = 6) = false := by simp [h3, h6]
      rw [e]
      have e3 : (h == 3) = false := by simp [h3]
      have e6 : (h == 6) = false := by simp [h6]
      go_enter Tryd.func64, Tryd.ntmps64
      go_wp2_with fail
      go_ret
      exact ⟨rfl, w_refl w⟩

/-- What stands while Made runs. -/
structure FrM (w W : World) (s : Sy) : Prop where
  bel : Below w.heap.size w W
  K : Cell2 W w.heap.size s
  R : Cell3 W (w.heap.size + 1) (0, 0, 0)
theorem FrM.later {w W W' : World} {s : Sy} (h : FrM w W s) (k : Below W.heap.size W W') : FrM w W' s := ⟨w_below h.bel k, h.K.later k, h.R.later k⟩

set_option maxHeartbeats 2000000 in
theorem rmade_any (s : Sy) (hs : okS s) (w : World) : Calls Tryd.prog 49 #[sv s] w fun e w' => e = .returned (pv (madeS s)) ∧ Below w.heap.size w w' := by
  obtain ⟨h, y⟩ := s
  obtain ⟨hh, h3, h4⟩ := hs
  simp only at hh h3 h4
  have B := Lib.hid (fun W => rbegin_any h hh W)
  have SO := Lib.hid (fun W => rsoft_any h W)
  have em : madeS (h, y) = ((beginI h + y - 1 + 18) % 7, (beginI h + y - 1 + 18) / 7, if (h = 3 ∨ h = 6) ∧ y = 4 then -1 else 0) := rfl
  have hb := begin_bd h
  rw [em]
  generalize beginI h = b at *
  have x1 : IntKind.i64.wrap (b + y) = b + y := IntWalk.i64_in _ (by omega)
  have x2 : IntKind.i64.wrap (b + y - 1) = b + y - 1 := IntWalk.i64_in _ (by omega)
  obtain ⟨n, hn⟩ : ∃ n, b + y - 1 + 18 = n := ⟨_, rfl⟩
  rw [hn]
  have x3 : IntKind.i64.wrap (b + y - 1 + 18) = n := by rw [IntWalk.i64_in _ (by omega)]; exact hn
  have n0 : 0 ≤ n := by omega
  have n1 : n ≤ 100 := by omega
  have t1 : n.tmod 7 = n % 7 := Int.tmod_eq_emod_of_nonneg n0
  have t2 : n.tdiv 7 = n / 7 := Int.tdiv_eq_ediv_of_nonneg n0
  have x4 : IntKind.i64.wrap (n / 7) = n / 7 := IntWalk.i64_in _ (by omega)
  have x5 : IntKind.i64.wrap (n % 7) = n % 7 := IntWalk.i64_in _ (by omega)
  have FX := Lib.hid (show FrM w (World.drew ((w.alloc (sO (h, y))).alloc (pO (0, 0, 0)))) (h, y) from
    FrM.later ⟨w_alloc (w_alloc (w_refl w) _) _, boxesC w (h, y) (pO (0, 0, 0)) 25, boxesE w (sO (h, y)) (0, 0, 0) 23⟩ (w_refl _).drew)
  clear hb em hn
  have ways : (decide (h = 3 ∨ h = 6) = false ∧ ¬ ((h = 3 ∨ h = 6) ∧ y = 4)) ∨ (decide (h = 3 ∨ h = 6) = true ∧ y ≠ 4 ∧ ¬ ((h = 3 ∨ h = 6) ∧ y = 4)) ∨ (decide (h = 3 ∨ h = 6) = true ∧ y = 4 ∧ ((h = 3 ∨ h = 6) ∧ y = 4)) := by
    by_cases a : h = 3 ∨ h = 6
    · by_cases b : y = 4
      · exact .inr (.inr ⟨decide_eq_true a, b, a, b⟩)
      · exact .inr (.inl ⟨decide_eq_true a, b, fun x => b x.2⟩)
    · exact .inl ⟨decide_eq_false a, fun x => a x.1⟩
  rcases ways with ⟨e1, e2⟩ | ⟨e1, e3, e2⟩ | ⟨e1, e3, e2⟩
  · rw [if_neg e2]
    rw [e1] at SO
    clear e1 e2
    go_enter Tryd.func49, Tryd.ntmps49
    go_wp2_with fail
    go_region_held3 (fun W => W.cell? ⟨w.heap.size, 0, none⟩ = some (.int .i64 h) ∧ W.cell? ⟨w.heap.size, 1, none⟩ = some (.int .i64 y))
      (first
        | exact ⟨FX.out.K.c0, FX.out.K.c1⟩
        | fail)
      (first
        | (go_at_call 54; refine (B.out _).mono ?_; rintro e wn ⟨rfl, hb⟩; replace FX := Lib.hid (FX.out.later hb); clear hb)
        | fail)
    have FY := Lib.hid (FX.out.later (w_alloc (w_refl _) (.cells #[.int .i64 (n % 7), .int .i64 (n / 7), .int .i64 0] 23)))
    have hlt := Lib.hid (show w.heap.size ≤ wn.heap.size from FX.out.bel.size)
    have G := Lib.hid (Cell3.made wn (n % 7, n / 7, 0) 23)
    obtain ⟨_, c0, c1, _, _⟩ := FY.out.K
    clear FX B
    go_wp2_with fail
    refine (SO.out _).mono ?_
    rintro e w2 ⟨rfl, hb⟩
    have FZ := Lib.hid (FY.out.later hb)
    have G2 := Lib.hid (G.out.later hb)
    clear c0 c1 hb FY G SO
    obtain ⟨_, c0, c1, _, _⟩ := FZ.out.K
    obtain ⟨_, g0, g1, g2, k0, k1, k2⟩ := G2.out
    obtain ⟨_, d0, d1, d2, f0, f1, f2⟩ := FZ.out.R
    go_wp2_with fail
    refine bodyPost_ret (v := pv (n % 7, n / 7, 0)) (by simp [results, Tryd.results49, go_sem, d0, d1, d2]) rfl ⟨rfl, ?_⟩
    exact w_set (w_set (w_set FZ.out.bel (by simp) _) (by simp) _) (by simp) _
  · rw [if_neg e2]
    rw [e1] at SO
    have e4 : (y == 4) = false := by simp [e3]
    clear e1 e2 e3
    go_enter Tryd.func49, Tryd.ntmps49
    go_wp2_with fail
    go_region_held3 (fun W => W.cell? ⟨w.heap.size, 0, none⟩ = some (.int .i64 h) ∧ W.cell? ⟨w.heap.size, 1, none⟩ = some (.int .i64 y))
      (first
        | exact ⟨FX.out.K.c0, FX.out.K.c1⟩
        | fail)
      (first
        | (go_at_call 54; refine (B.out _).mono ?_; rintro e wn ⟨rfl, hb⟩; replace FX := Lib.hid (FX.out.later hb); clear hb)
        | fail)
    have FY := Lib.hid (FX.out.later (w_alloc (w_refl _) (.cells #[.int .i64 (n % 7), .int .i64 (n / 7), .int .i64 0] 23)))
    have hlt := Lib.hid (show w.heap.size ≤ wn.heap.size from FX.out.bel.size)
    have G := Lib.hid (Cell3.made wn (n % 7, n / 7, 0) 23)
    obtain ⟨_, c0, c1, _, _⟩ := FY.out.K
    clear FX B
    go_wp2_with fail
    refine (SO.out _).mono ?_
    rintro e w2 ⟨rfl, hb⟩
    have FZ := Lib.hid (FY.out.later hb)
    have G2 := Lib.hid (G.out.later hb)
    clear c0 c1 hb FY G SO
    obtain ⟨_, c0, c1, _, _⟩ := FZ.out.K
    obtain ⟨_, g0, g1, g2, k0, k1, k2⟩ := G2.out
    obtain ⟨_, d0, d1, d2, f0, f1, f2⟩ := FZ.out.R
    go_wp2_with fail
    refine bodyPost_ret (v := pv (n % 7, n / 7, 0)) (by simp [results, Tryd.results49, go_sem, d0, d1, d2]) rfl ⟨rfl, ?_⟩
    exact w_set (w_set (w_set FZ.out.bel (by simp) _) (by simp) _) (by simp) _
  · rw [if_pos e2]
    rw [e1] at SO
    clear e1 e2
    subst e3
    go_enter Tryd.func49, Tryd.ntmps49
    go_wp2_with fail
    go_region_held3 (fun W => W.cell? ⟨w.heap.size, 0, none⟩ = some (.int .i64 h) ∧ W.cell? ⟨w.heap.size, 1, none⟩ = some (.int .i64 4))
      (first
        | exact ⟨FX.out.K.c0, FX.out.K.c1⟩
        | fail)
      (first
        | (go_at_call 54; refine (B.out _).mono ?_; rintro e wn ⟨rfl, hb⟩; replace FX := Lib.hid (FX.out.later hb); clear hb)
        | fail)
    have FY := Lib.hid (FX.out.later (w_alloc (w_refl _) (.cells #[.int .i64 (n % 7), .int .i64 (n / 7), .int .i64 0] 23)))
    have hlt := Lib.hid (show w.heap.size ≤ wn.heap.size from FX.out.bel.size)
    have hne : ¬ wn.heap.size = w.heap.size + 1 := by have := FX.out.R.inb; omega
    have hne2 : ¬ w.heap.size + 1 = wn.heap.size := by omega
    have G := Lib.hid (Cell3.made wn (n % 7, n / 7, 0) 23)
    obtain ⟨_, c0, c1, _, _⟩ := FY.out.K
    clear FX B
    go_wp2_with fail
    refine (SO.out _).mono ?_
    rintro e w2 ⟨rfl, hb⟩
    have FZ := Lib.hid (FY.out.later hb)
    have G2 := Lib.hid (G.out.later hb)
    clear c0 c1 hb FY G SO
    obtain ⟨_, c0, c1, _, _⟩ := FZ.out.K
    obtain ⟨_, g0, g1, g2, k0, k1, k2⟩ := G2.out
    obtain ⟨_, d0, d1, d2, f0, f1, f2⟩ := FZ.out.R
    go_wp2_with fail
    refine bodyPost_ret (v := pv (n % 7, n / 7, -1)) (by simp [results, Tryd.results49, go_sem, d0, d1, d2]) rfl ⟨rfl, ?_⟩
    exact w_set (w_set (w_set (w_set FZ.out.bel hlt.out _) (by simp) _) (by simp) _) (by simp) _

end Go.Proofs.YtaldbjhalpgkeaaDoor
