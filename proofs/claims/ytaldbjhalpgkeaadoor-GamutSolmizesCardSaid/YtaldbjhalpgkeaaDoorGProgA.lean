/- The program's small functions of package gamut: isPlace, isSyllable, isSoft, Place, Word; and Pitch. -/
import Derived.Test.YtaldbjhalpgkeaaDoorGPitch
import Derived.Test.YtaldbjhalpgkeaaDoorGTabG
import Derived.Test.YtaldbjhalpgkeaaDoorGPut
namespace Go.Proofs.YtaldbjhalpgkeaaDoor
open Go.RowKit

theorem TabG.bi {w : World} (T : TabG w) {h : Int} (h1 : 1 ≤ h) (h2 : h ≤ 7) : w.cell? ⟨0, h.toNat - 1, none⟩ = some (.int .i64 (beginI h)) := by
  have e := T.b (h.toNat - 1) (by omega)
  rwa [show (((h.toNat - 1 : Nat) : Int) + 1) = h by omega] at e
theorem TabG.si {w : World} (T : TabG w) {h : Int} (h1 : 1 ≤ h) (h2 : h ≤ 6) : w.cell? ⟨1, h.toNat - 1, none⟩ = some (.string (wordB h)) := by
  have e := T.s (h.toNat - 1) (by omega)
  rwa [show (((h.toNat - 1 : Nat) : Int) + 1) = h by omega] at e

theorem wisplace_any (n : Int) (w : World) : Calls Tryd.prog 39 #[.int .i64 n] w fun e w' => e = .returned (.bool (decide (0 ≤ n ∧ n ≤ 19))) ∧ Below w.heap.size w w' := by
  have c : (n < 0 ∧ decide (0 ≤ n ∧ n ≤ 19) = false) ∨ (0 ≤ n ∧ n < 20 ∧ decide (0 ≤ n ∧ n ≤ 19) = true) ∨ (0 ≤ n ∧ ¬ n < 20 ∧ decide (0 ≤ n ∧ n ≤ 19) = false) := by
    by_cases a : 0 ≤ n
    · by_cases b : n < 20
      · exact .inr (.inl ⟨a, b, decide_eq_true (by omega)⟩)
      · exact .inr (.inr ⟨a, by omega, decide_eq_false (by omega)⟩)
    · exact .inl ⟨by omega, decide_eq_false (by omega)⟩
  rcases c with ⟨h, e⟩ | ⟨h, h2, e⟩ | ⟨h, h2, e⟩
  all_goals
    rw [e]
    clear e
    go_enter Tryd.func39, Tryd.ntmps39
    go_wp2_with fail
    go_ret
    exact ⟨rfl, w_refl w⟩

theorem wissyl_any (n : Int) (w : World) : Calls Tryd.prog 46 #[.int .i64 n] w fun e w' => e = .returned (.bool (decide (1 ≤ n ∧ n ≤ 6))) ∧ Below w.heap.size w w' := by
  have c : (n < 1 ∧ decide (1 ≤ n ∧ n ≤ 6) = false) ∨ (1 ≤ n ∧ n ≤ 6 ∧ decide (1 ≤ n ∧ n ≤ 6) = true) ∨ (1 ≤ n ∧ ¬ n ≤ 6 ∧ decide (1 ≤ n ∧ n ≤ 6) = false) := by
    by_cases a : 1 ≤ n
    · by_cases b : n ≤ 6
      · exact .inr (.inl ⟨a, b, decide_eq_true (by omega)⟩)
      · exact .inr (.inr ⟨a, by omega, decide_eq_false (by omega)⟩)
    · exact .inl ⟨by omega, decide_eq_false (by omega)⟩
  rcases c with ⟨h, e⟩ | ⟨h, h2, e⟩ | ⟨h, h2, e⟩
  all_goals
    rw [e]
    clear e
    go_enter Tryd.func46, Tryd.ntmps46
    go_wp2_with fail
    go_ret
    exact ⟨rfl, w_refl w⟩

theorem wissoft_any (h : Int) (hk : 1 ≤ h ∧ h ≤ 7) (w : World) : Calls Tryd.prog 47 #[.int .i64 h] w fun e w' => e = .returned (.bool (decide (h = 3 ∨ h = 6))) ∧ Below w.heap.size w w' := by
  have c : h = 1 ∨ h = 2 ∨ h = 3 ∨ h = 4 ∨ h = 5 ∨ h = 6 ∨ h = 7 := by omega
  clear hk
  rcases c with rfl | rfl | rfl | rfl | rfl | rfl | rfl
  all_goals
    go_enter Tryd.func47, Tryd.ntmps47
    go_wp2_with fail
    go_ret
    exact ⟨rfl, w_refl w⟩

set_option maxHeartbeats 1000000 in
theorem wplace_any (p : Pi3) (w : World) (_T : TabG w) : Calls Tryd.prog 11 #[pv p] w fun e w' => e = .returned (.tuple #[.int .i64 (placeV p).1, .int .i64 (placeV p).2]) ∧ Below w.heap.size w w' := by
  have N := Lib.hid (fun W => wnumber_any p W)
  have P := Lib.hid (fun W => wisplace_any (numI p - 18) W)
  unfold placeV
  by_cases h : okP p
  · have hb := num_bd h
    rw [numV_ok h] at N
    have x1 : IntKind.i64.wrap (numI p - 18) = numI p - 18 := IntWalk.i64_in _ (by omega)
    by_cases h2 : 18 ≤ numI p ∧ numI p ≤ 37
    · rw [if_pos ⟨h, h2⟩]
      rw [show decide (0 ≤ numI p - 18 ∧ numI p - 18 ≤ 19) = true from decide_eq_true (by omega)] at P
      clear h hb h2
      generalize numI p = n at *
      go_enter Tryd.func11, Tryd.ntmps11
      go_wp2_with fail
      refine (N.out _).mono ?_
      rintro e w1 ⟨rfl, hb⟩
      have hB := Lib.hid (w_below (w_alloc (w_refl w) _) hb)
      clear hb N
      go_wp2_with fail
      refine (P.out _).mono ?_
      rintro e w2 ⟨rfl, hb⟩
      have hB2 := Lib.hid (w_below hB.out hb)
      clear hb P hB
      go_wp2_with fail
      go_ret2
      exact ⟨rfl, hB2.out⟩
    · rw [if_neg (fun x => h2 x.2)]
      rw [show decide (0 ≤ numI p - 18 ∧ numI p - 18 ≤ 19) = false from decide_eq_false (by omega)] at P
      clear h hb h2
      generalize numI p = n at *
      go_enter Tryd.func11, Tryd.ntmps11
      go_wp2_with fail
      refine (N.out _).mono ?_
      rintro e w1 ⟨rfl, hb⟩
      have hB := Lib.hid (w_below (w_alloc (w_refl w) _) hb)
      clear hb N
      go_wp2_with fail
      refine (P.out _).mono ?_
      rintro e w2 ⟨rfl, hb⟩
      have hB2 := Lib.hid (w_below hB.out hb)
      clear hb P hB
      go_wp2_with fail
      go_ret2
      exact ⟨rfl, hB2.out⟩
  · rw [if_neg (fun x => h x.1)]
    rw [numV_no h] at N
    clear h P
    go_enter Tryd.func11, Tryd.ntmps11
    go_wp2_with fail
    refine (N.out _).mono ?_
    rintro e w1 ⟨rfl, hb⟩
    have hB := Lib.hid (w_below (w_alloc (w_refl w) _) hb)
    clear hb N
    go_wp2_with fail
    go_ret2
    exact ⟨rfl, hB.out⟩

set_option maxHeartbeats 1000000 in
theorem wword_any (n : Int) (w : World) (T : TabG w) : Calls Tryd.prog 20 #[.int .i64 n] w fun e w' => e = .returned (.tuple #[.string (wordV n).1, .int .i64 (wordV n).2]) ∧ Below w.heap.size w w' := by
  have P := Lib.hid (fun W => wissyl_any n W)
  have TB := Lib.hid (fun W (b : Below w.heap.size w W) => T.later b)
  clear T
  unfold wordV
  by_cases h : 1 ≤ n ∧ n ≤ 6
  · rw [if_pos h]
    rw [show decide (1 ≤ n ∧ n ≤ 6) = true from decide_eq_true h] at P
    have x1 : IntKind.i64.wrap (n - 1) = n - 1 := IntWalk.i64_in _ (by omega)
    have h1 : 0 ≤ n - 1 := by omega
    have h2 : n - 1 < 7 := by omega
    have h3 : n - 1 < 6 := by omega
    have h4 : n < 7 := by omega
    have h5 : 1 ≤ n := by omega
    have h6 : n ≤ 6 := by omega
    have BI := Lib.hid (fun W (b : Below w.heap.size w W) => (TB.out W b).si h.1 h.2)
    clear TB h
    go_enter Tryd.func20, Tryd.ntmps20
    go_wp2_with fail
    refine (P.out _).mono ?_
    rintro e w1 ⟨rfl, hb⟩
    have c := BI.out _ hb
    have hB := Lib.hid hb
    clear hb P BI
    go_wp2_with fail
    go_ret2
    exact ⟨rfl, hB.out⟩
  · rw [if_neg h]
    rw [show decide (1 ≤ n ∧ n ≤ 6) = false from decide_eq_false h] at P
    clear TB h
    go_enter Tryd.func20, Tryd.ntmps20
    go_wp2_with fail
    refine (P.out _).mono ?_
    rintro e w1 ⟨rfl, hb⟩
    have hB := Lib.hid hb
    clear hb P
    go_wp2_with fail
    go_ret2
    exact ⟨rfl, hB.out⟩

set_option maxHeartbeats 2000000 in
theorem wpitch_any (s : Sy) (w : World) (T : TabG w) : Calls Tryd.prog 16 #[sv s] w (PitPost (pitV s) w) := by
  have P := Lib.hid (fun W => wissyl_any s.2 W)
  unfold pitV
  by_cases h : okS s
  · rw [if_pos h]
    obtain ⟨h, y⟩ := s
    obtain ⟨hh, h3, h4⟩ := h
    simp only at hh h3 h4 P
    rw [show decide (1 ≤ y ∧ y ≤ 6) = true from decide_eq_true ⟨h3, h4⟩] at P
    have SO := Lib.hid (fun W => wissoft_any h hh W)
    have em : madeS (h, y) = ((beginI h + y - 1 + 18) % 7, (beginI h + y - 1 + 18) / 7, if (h = 3 ∨ h = 6) ∧ y = 4 then -1 else 0) := rfl
    have hb := begin_bd h
    obtain ⟨g1, g2⟩ := hh
    have BI := Lib.hid (fun W (b : Below w.heap.size w W) => (T.later b).bi g1 g2)
    have HG := Lib.hid (World.block_lt_of_cell? w _ (T.bi g1 g2))
    simp only at HG
    clear T
    rw [em]
    generalize beginI h = b at *
    have x0 : IntKind.i64.wrap (h - 1) = h - 1 := IntWalk.i64_in _ (by omega)
    have x1 : IntKind.i64.wrap (18 + b) = 18 + b := IntWalk.i64_in _ (by omega)
    have x2 : IntKind.i64.wrap (18 + b + y) = 18 + b + y := IntWalk.i64_in _ (by omega)
    obtain ⟨n, hn⟩ : ∃ n, b + y - 1 + 18 = n := ⟨_, rfl⟩
    rw [hn]
    have x3 : IntKind.i64.wrap (18 + b + y - 1) = n := by rw [IntWalk.i64_in _ (by omega)]; omega
    have n0 : 0 ≤ n ∧ n ≤ 62 := by omega
    have OF0 := Lib.hid (fun W => wof_any n 0 W (by omega) (by omega))
    have OF1 := Lib.hid (fun W => wof_any n (-1) W (by omega) (by omega))
    rw [of_ok ⟨n0, by omega⟩] at OF0 OF1
    have h5 : 0 ≤ h - 1 := by omega
    have h6 : h - 1 < 7 := by omega
    have g3 : ¬ h < 1 := by omega
    have g4 : ¬ 7 < h := by omega
    have FX0 := Lib.hid (show FrM w ((w.alloc (sO (h, y))).alloc (pO (0, 0, 0))) (h, y) from
      ⟨w_alloc (w_alloc (w_refl w) _) _, boxesC w (h, y) (pO (0, 0, 0)) 25, boxesE w (sO (h, y)) (0, 0, 0) 23⟩)
    clear hb em hn
    have ways : (y ≠ 4 ∧ ¬ ((h = 3 ∨ h = 6) ∧ y = 4)) ∨ (decide (h = 3 ∨ h = 6) = false ∧ y = 4 ∧ ¬ ((h = 3 ∨ h = 6) ∧ y = 4)) ∨ (decide (h = 3 ∨ h = 6) = true ∧ y = 4 ∧ ((h = 3 ∨ h = 6) ∧ y = 4)) := by
      by_cases b : y = 4
      · by_cases a : h = 3 ∨ h = 6
        · exact .inr (.inr ⟨decide_eq_true a, b, a, b⟩)
        · exact .inr (.inl ⟨decide_eq_false a, b, fun x => a x.1⟩)
      · exact .inl ⟨b, fun x => b x.2⟩
    rcases ways with ⟨e3, e2⟩ | ⟨e1, e3, e2⟩ | ⟨e1, e3, e2⟩
    · rw [if_neg e2]
      have e4 : (y == 4) = false := by simp [e3]
      clear e2 e3 SO OF1
      obtain ⟨_, c0, c1, _, _⟩ := FX0.out.K
      go_enter Tryd.func16, Tryd.ntmps16
      go_wp2_with fail
      refine (P.out _).mono ?_
      rintro e w1 ⟨rfl, hb⟩
      have FX := Lib.hid (FX0.out.later hb)
      clear hb P c0 c1 FX0
      obtain ⟨_, c0, c1, _, _⟩ := FX.out.K
      go_wp2_with fail
      have FY := Lib.hid (FX.out.later (w_refl _).drew)
      have BY := Lib.hid (BI.out _ FY.out.bel)
      obtain ⟨_, d0, d1, d2, f0, f1, f2⟩ := FY.out.R
      have hne : ¬ w.heap.size = w.heap.size + 1 := by omega
      clear FX BI c0 c1
      go_region_held3 (fun W => W.cell? ⟨w.heap.size, 0, none⟩ = some (.int .i64 h) ∧ W.cell? ⟨w.heap.size, 1, none⟩ = some (.int .i64 y) ∧ W.cell? ⟨0, h.toNat - 1, none⟩ = some (.int .i64 b))
        (first
          | exact ⟨FY.out.K.c0, FY.out.K.c1, BY.out⟩
          | exact ⟨gkept (gkept (gkept FY.out.K.c0 (.inl hne)) (.inl hne)) (.inl hne), gkept (gkept (gkept FY.out.K.c1 (.inl hne)) (.inl hne)) (.inl hne), gkept (gkept (gkept BY.out (.inl (by have := FY.out.bel.size; have := HG.out; omega))) (.inl (by have := HG.out; omega))) (.inl (by have := HG.out; omega))⟩
          | fail)
        (first
          | (go_at_call 48; refine (OF0.out _).mono ?_; rintro e wn ⟨rfl, hb⟩; replace FY := Lib.hid (FY.out.later hb); replace BY := Lib.hid (cell_later hb BY.out); clear hb d0 d1 d2 f0 f1 f2; obtain ⟨_, d0, d1, d2, f0, f1, f2⟩ := FY.out.R)
          | fail)
      all_goals
        go_wp2_with fail
        refine bodyPost_ret (v := .tuple #[pv (n % 7, n / 7, 0), .int .i64 0]) (by simp [results, Tryd.results16, go_sem, d0, d1, d2]) rfl ⟨rfl, ?_⟩
        exact w_set (w_set (w_set FY.out.bel (by simp) _) (by simp) _) (by simp) _
    · rw [if_neg e2]
      rw [e1] at SO
      clear e1 e2 OF1
      subst e3
      obtain ⟨_, c0, c1, _, _⟩ := FX0.out.K
      go_enter Tryd.func16, Tryd.ntmps16
      go_wp2_with fail
      refine (P.out _).mono ?_
      rintro e w1 ⟨rfl, hb⟩
      have FX := Lib.hid (FX0.out.later hb)
      clear hb P c0 c1 FX0
      obtain ⟨_, c0, c1, _, _⟩ := FX.out.K
      go_wp2_with fail
      refine (SO.out _).mono ?_
      rintro e w2 ⟨rfl, hb⟩
      replace FX := Lib.hid (FX.out.later hb)
      clear hb SO c0 c1
      obtain ⟨_, c0, c1, _, _⟩ := FX.out.K
      go_wp2_with fail
      have FY := Lib.hid (FX.out.later (w_refl _).drew)
      have BY := Lib.hid (BI.out _ FY.out.bel)
      obtain ⟨_, d0, d1, d2, f0, f1, f2⟩ := FY.out.R
      have hne : ¬ w.heap.size = w.heap.size + 1 := by omega
      clear FX BI c0 c1
      go_region_held3 (fun W => W.cell? ⟨w.heap.size, 0, none⟩ = some (.int .i64 h) ∧ W.cell? ⟨w.heap.size, 1, none⟩ = some (.int .i64 4) ∧ W.cell? ⟨0, h.toNat - 1, none⟩ = some (.int .i64 b))
        (first
          | exact ⟨FY.out.K.c0, FY.out.K.c1, BY.out⟩
          | exact ⟨gkept (gkept (gkept FY.out.K.c0 (.inl hne)) (.inl hne)) (.inl hne), gkept (gkept (gkept FY.out.K.c1 (.inl hne)) (.inl hne)) (.inl hne), gkept (gkept (gkept BY.out (.inl (by have := FY.out.bel.size; have := HG.out; omega))) (.inl (by have := HG.out; omega))) (.inl (by have := HG.out; omega))⟩
          | fail)
        (first
          | (go_at_call 48; refine (OF0.out _).mono ?_; rintro e wn ⟨rfl, hb⟩; replace FY := Lib.hid (FY.out.later hb); replace BY := Lib.hid (cell_later hb BY.out); clear hb d0 d1 d2 f0 f1 f2; obtain ⟨_, d0, d1, d2, f0, f1, f2⟩ := FY.out.R)
          | fail)
      all_goals
        go_wp2_with fail
        refine bodyPost_ret (v := .tuple #[pv (n % 7, n / 7, 0), .int .i64 0]) (by simp [results, Tryd.results16, go_sem, d0, d1, d2]) rfl ⟨rfl, ?_⟩
        exact w_set (w_set (w_set FY.out.bel (by simp) _) (by simp) _) (by simp) _
    · rw [if_pos e2]
      rw [e1] at SO
      clear e1 e2 OF0
      subst e3
      obtain ⟨_, c0, c1, _, _⟩ := FX0.out.K
      go_enter Tryd.func16, Tryd.ntmps16
      go_wp2_with fail
      refine (P.out _).mono ?_
      rintro e w1 ⟨rfl, hb⟩
      have FX := Lib.hid (FX0.out.later hb)
      clear hb P c0 c1 FX0
      obtain ⟨_, c0, c1, _, _⟩ := FX.out.K
      go_wp2_with fail
      refine (SO.out _).mono ?_
      rintro e w2 ⟨rfl, hb⟩
      replace FX := Lib.hid (FX.out.later hb)
      clear hb SO c0 c1
      obtain ⟨_, c0, c1, _, _⟩ := FX.out.K
      go_wp2_with fail
      have FY := Lib.hid (FX.out.later (w_refl _).drew)
      have BY := Lib.hid (BI.out _ FY.out.bel)
      obtain ⟨_, d0, d1, d2, f0, f1, f2⟩ := FY.out.R
      have hne : ¬ w.heap.size = w.heap.size + 1 := by omega
      clear FX BI c0 c1
      go_region_held3 (fun W => W.cell? ⟨w.heap.size, 0, none⟩ = some (.int .i64 h) ∧ W.cell? ⟨w.heap.size, 1, none⟩ = some (.int .i64 4) ∧ W.cell? ⟨0, h.toNat - 1, none⟩ = some (.int .i64 b))
        (first
          | exact ⟨FY.out.K.c0, FY.out.K.c1, BY.out⟩
          | exact ⟨gkept (gkept (gkept FY.out.K.c0 (.inl hne)) (.inl hne)) (.inl hne), gkept (gkept (gkept FY.out.K.c1 (.inl hne)) (.inl hne)) (.inl hne), gkept (gkept (gkept BY.out (.inl (by have := FY.out.bel.size; have := HG.out; omega))) (.inl (by have := HG.out; omega))) (.inl (by have := HG.out; omega))⟩
          | fail)
        (first
          | (go_at_call 48; refine (OF1.out _).mono ?_; rintro e wn ⟨rfl, hb⟩; replace FY := Lib.hid (FY.out.later hb); replace BY := Lib.hid (cell_later hb BY.out); clear hb d0 d1 d2 f0 f1 f2; obtain ⟨_, d0, d1, d2, f0, f1, f2⟩ := FY.out.R)
          | fail)
      all_goals
        go_wp2_with fail
        refine bodyPost_ret (v := .tuple #[pv (n % 7, n / 7, (-1)), .int .i64 0]) (by simp [results, Tryd.results16, go_sem, d0, d1, d2]) rfl ⟨rfl, ?_⟩
        exact w_set (w_set (w_set FY.out.bel (by simp) _) (by simp) _) (by simp) _
  · rw [if_neg h]
    obtain ⟨a, b⟩ := s
    unfold okS at h
    simp only at h P
    have R := Lib.hid (boxesE w (sO (a, b)) (0, 0, 0) 23)
    have ways : a < 1 ∨ (1 ≤ a ∧ 7 < a) ∨ (1 ≤ a ∧ a ≤ 7 ∧ decide (1 ≤ b ∧ b ≤ 6) = false) := by
      by_cases c : 1 ≤ b ∧ b ≤ 6
      · have : a < 1 ∨ (1 ≤ a ∧ 7 < a) := by omega
        rcases this with x | x
        · exact .inl x
        · exact .inr (.inl x)
      · have : a < 1 ∨ (1 ≤ a ∧ 7 < a) ∨ (1 ≤ a ∧ a ≤ 7) := by omega
        rcases this with x | x | x
        · exact .inl x
        · exact .inr (.inl x)
        · exact .inr (.inr ⟨x.1, x.2, decide_eq_false c⟩)
    clear h
    rcases ways with h1 | ⟨h1, h2⟩ | ⟨h1, h2, h3⟩
    · clear P
      obtain ⟨_, d0, d1, d2, f0, f1, f2⟩ := R.out
      go_enter Tryd.func16, Tryd.ntmps16
      go_wp2_with fail
      refine bodyPost_ret (v := .tuple #[pv (0, 0, 0), .int .i64 2]) (by simp [results, Tryd.results16, go_sem, d0, d1, d2]) rfl ⟨rfl, ?_⟩
      exact w_alloc (w_alloc (w_refl w) _) _
    · clear P
      obtain ⟨_, d0, d1, d2, f0, f1, f2⟩ := R.out
      go_enter Tryd.func16, Tryd.ntmps16
      go_wp2_with fail
      refine bodyPost_ret (v := .tuple #[pv (0, 0, 0), .int .i64 2]) (by simp [results, Tryd.results16, go_sem, d0, d1, d2]) rfl ⟨rfl, ?_⟩
      exact w_alloc (w_alloc (w_refl w) _) _
    · rw [h3] at P
      clear h3
      go_enter Tryd.func16, Tryd.ntmps16
      go_wp2_with fail
      refine (P.out _).mono ?_
      rintro e w1 ⟨rfl, hb⟩
      obtain ⟨_, d0, d1, d2, f0, f1, f2⟩ := R.out.later hb
      have hB := Lib.hid (w_below (w_alloc (w_alloc (w_refl w) _) _) hb)
      clear hb P R
      go_wp2_with fail
      refine bodyPost_ret (v := .tuple #[pv (0, 0, 0), .int .i64 2]) (by simp [results, Tryd.results16, go_sem, d0, d1, d2]) rfl ⟨rfl, ?_⟩
      exact w_set (w_set (w_set hB.out (by simp) _) (by simp) _) (by simp) _

end Go.Proofs.YtaldbjhalpgkeaaDoor
