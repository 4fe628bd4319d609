/- The chapter's examples of layer 6. -/
import Derived.Test.YteomimeagloofaaDoorCPlaces
namespace Go.Proofs.YteomimeagloofaaDoor
open Go.RowKit

theorem cpit_at {c : Cl} {k place acc e0 : Int} {p : Pi3} (h1 : pitR c k place acc = p) (h2 : pitE c k place acc = e0) (W : World) (T : TabC W) : Calls Tryd.prog 10 #[cv c, .int .i64 k, .int .i64 place, .int .i64 acc] W fun e w' => e = .returned (mpv p e0) ∧ Below W.heap.size W w' := by
  subst h1 h2; exact cpit_any c k place acc W T
theorem cpla_at {c : Cl} {k : Int} {p : Pi3} {v : Int × Int × Int} (h : plaV c k p = v) (W : World) (T : TabC W) : Calls Tryd.prog 19 #[cv c, .int .i64 k, pv p] W fun e w' => e = .returned (.tuple #[.int .i64 v.1, .int .i64 v.2.1, .int .i64 v.2.2]) ∧ Below W.heap.size W w' := by
  subst h; exact cpla_any c k p W T
theorem cmov_at {c d : Cl} {x y e0 : Int} (h1 : movV c d x = y) (h2 : movE c d x = e0) (W : World) (T : TabC W) : Calls Tryd.prog 16 #[cv c, cv d, .int .i64 x] W fun e w' => e = .returned (.tuple #[.int .i64 y, .int .i64 e0]) ∧ Below W.heap.size W w' := by
  subst h1 h2; exact cmov_any c d x W T
theorem kf_a1 : pitE (4, 2) 0 2 0 = 0 ∧ pitC (4, 2) 0 2 0 = (4, 4, 0) := by decide +kernel
theorem kf_a2 : pitE (3, 4) 0 6 0 = 0 ∧ pitC (3, 4) 0 6 0 = (3, 3, 0) := by decide +kernel
theorem kf_a3 : pitE (0, 3) 1 3 2 = 0 ∧ pitC (0, 3) 1 3 2 = (6, 3, 0) := by decide +kernel
theorem kf_a4 : pitE (0, 3) 2 6 0 = 0 ∧ pitC (0, 3) 2 6 0 = (2, 4, -1) := by decide +kernel
theorem kf_o1 : plaV (0, 3) 0 (6, 3, (-1)) = (3, (-1), 0) := by decide +kernel
theorem kf_o2 : plaV (0, 1) 0 (3, 4, 1) = (3, 1, 0) := by decide +kernel
theorem kf_pl : plaV (4, 2) 0 (0, 2, 0) = (0, 0, 2) := by decide +kernel
theorem kf_p1 : pitR (0, 6) 0 0 0 = (0, 0, 0) ∧ pitE (0, 6) 0 0 0 = 2 := by decide +kernel
theorem kf_p2 : pitR (0, 3) 3 0 0 = (0, 0, 0) ∧ pitE (0, 3) 3 0 0 = 2 := by decide +kernel
theorem kf_p3 : pitR (0, 3) 0 13 9 = (0, 0, 0) ∧ pitE (0, 3) 0 13 9 = 2 := by decide +kernel
theorem kf_m1 : movV (0, 1) (0, 3) 0 = 4 ∧ movE (0, 1) (0, 3) 0 = 0 := by decide +kernel
theorem kf_m2 : movV (0, 3) (0, 1) 4 = 0 ∧ movE (0, 3) (0, 1) 4 = 0 := by decide +kernel
theorem kf_m3 : movV (0, 1) (3, 5) 12 = 0 ∧ movE (0, 1) (3, 5) 12 = 2 := by decide +kernel
theorem kf_b0 : besC 0 [] = (0, 1) ∧ besE 0 [] = 0 := by decide +kernel
theorem kf_b2 : besC 0 [(0, 3, 0), (0, 6, 0)] = (0, 0) ∧ besE 0 [(0, 3, 0), (0, 6, 0)] = 18 := by decide +kernel
theorem kf_g1 : ledV (-1) = 0 ∧ ledE (-1) = 0 := by decide +kernel
theorem kf_g2 : ledV (-2) = 1 ∧ ledE (-2) = 0 := by decide +kernel
theorem kf_g3 : ledV (-4) = 2 ∧ ledE (-4) = 0 := by decide +kernel
theorem kf_g4 : ledV 9 = 0 ∧ ledE 9 = 0 := by decide +kernel
theorem kf_g5 : ledV 11 = 1 ∧ ledE 11 = 0 := by decide +kernel
theorem kw_a1 : ∀ W : World, TabC W → Calls Tryd.prog 23 #[.int .i64 4, .int .i64 2, .int .i64 0, .int .i64 2, .int .i64 0, .agg #[.int .i64 4, .int .i64 4, .int .i64 0]] W fun e w' => e = .returned (.bool true) ∧ Below W.heap.size W w' := fun W T => at_true (s := 4) (l := 2) (k := 0) (place := 2) (acc := 0) (p := (4, 4, 0)) kf_a1.1 kf_a1.2 W T
theorem kw_a2 : ∀ W : World, TabC W → Calls Tryd.prog 23 #[.int .i64 3, .int .i64 4, .int .i64 0, .int .i64 6, .int .i64 0, .agg #[.int .i64 3, .int .i64 3, .int .i64 0]] W fun e w' => e = .returned (.bool true) ∧ Below W.heap.size W w' := fun W T => at_true (s := 3) (l := 4) (k := 0) (place := 6) (acc := 0) (p := (3, 3, 0)) kf_a2.1 kf_a2.2 W T
theorem kw_a3 : ∀ W : World, TabC W → Calls Tryd.prog 23 #[.int .i64 0, .int .i64 3, .int .i64 1, .int .i64 3, .int .i64 2, .agg #[.int .i64 6, .int .i64 3, .int .i64 0]] W fun e w' => e = .returned (.bool true) ∧ Below W.heap.size W w' := fun W T => at_true (s := 0) (l := 3) (k := 1) (place := 3) (acc := 2) (p := (6, 3, 0)) kf_a3.1 kf_a3.2 W T
theorem kw_a4 : ∀ W : World, TabC W → Calls Tryd.prog 23 #[.int .i64 0, .int .i64 3, .int .i64 2, .int .i64 6, .int .i64 0, .agg #[.int .i64 2, .int .i64 4, .int .i64 (-1)]] W fun e w' => e = .returned (.bool true) ∧ Below W.heap.size W w' := fun W T => at_true (s := 0) (l := 3) (k := 2) (place := 6) (acc := 0) (p := (2, 4, (-1))) kf_a4.1 kf_a4.2 W T
theorem kw_o1 : ∀ W : World, TabC W → Calls Tryd.prog 24 #[.int .i64 0, .int .i64 3, .int .i64 0, .agg #[.int .i64 6, .int .i64 3, .int .i64 (-1)], .int .i64 3, .int .i64 (-1)] W fun e w' => e = .returned (.bool true) ∧ Below W.heap.size W w' := fun W T => on_true (s := 0) (l := 3) (k := 0) (place := 3) (acc := (-1)) (p := (6, 3, (-1))) kf_o1 W T
theorem kw_o2 : ∀ W : World, TabC W → Calls Tryd.prog 24 #[.int .i64 0, .int .i64 1, .int .i64 0, .agg #[.int .i64 3, .int .i64 4, .int .i64 1], .int .i64 3, .int .i64 1] W fun e w' => e = .returned (.bool true) ∧ Below W.heap.size W w' := fun W T => on_true (s := 0) (l := 1) (k := 0) (place := 3) (acc := 1) (p := (3, 4, 1)) kf_o2 W T
theorem kw_pl : ∀ W : World, TabC W → Calls Tryd.prog 19 #[.agg #[.int .i64 4, .int .i64 2], .int .i64 0, .agg #[.int .i64 0, .int .i64 2, .int .i64 0]] W fun e w' => e = .returned (.tuple #[.int .i64 0, .int .i64 0, .int .i64 2]) ∧ Below W.heap.size W w' := fun W T => cpla_at (c := (4, 2)) (k := 0) (p := (0, 2, 0)) (v := (0, 0, 2)) kf_pl W T
theorem kw_p1 : ∀ W : World, TabC W → Calls Tryd.prog 10 #[.agg #[.int .i64 0, .int .i64 6], .int .i64 0, .int .i64 0, .int .i64 0] W fun e w' => e = .returned (.tuple #[.agg #[.int .i64 0, .int .i64 0, .int .i64 0], .int .i64 2]) ∧ Below W.heap.size W w' := fun W T => cpit_at (c := (0, 6)) (k := 0) (place := 0) (acc := 0) (p := (0, 0, 0)) (e0 := 2) kf_p1.1 kf_p1.2 W T
theorem kw_p2 : ∀ W : World, TabC W → Calls Tryd.prog 10 #[.agg #[.int .i64 0, .int .i64 3], .int .i64 3, .int .i64 0, .int .i64 0] W fun e w' => e = .returned (.tuple #[.agg #[.int .i64 0, .int .i64 0, .int .i64 0], .int .i64 2]) ∧ Below W.heap.size W w' := fun W T => cpit_at (c := (0, 3)) (k := 3) (place := 0) (acc := 0) (p := (0, 0, 0)) (e0 := 2) kf_p2.1 kf_p2.2 W T
theorem kw_p3 : ∀ W : World, TabC W → Calls Tryd.prog 10 #[.agg #[.int .i64 0, .int .i64 3], .int .i64 0, .int .i64 13, .int .i64 9] W fun e w' => e = .returned (.tuple #[.agg #[.int .i64 0, .int .i64 0, .int .i64 0], .int .i64 2]) ∧ Below W.heap.size W w' := fun W T => cpit_at (c := (0, 3)) (k := 0) (place := 13) (acc := 9) (p := (0, 0, 0)) (e0 := 2) kf_p3.1 kf_p3.2 W T
theorem kw_m1 : ∀ W : World, TabC W → Calls Tryd.prog 16 #[.agg #[.int .i64 0, .int .i64 1], .agg #[.int .i64 0, .int .i64 3], .int .i64 0] W fun e w' => e = .returned (.tuple #[.int .i64 4, .int .i64 0]) ∧ Below W.heap.size W w' := fun W T => cmov_at (c := (0, 1)) (d := (0, 3)) (x := 0) (y := 4) (e0 := 0) kf_m1.1 kf_m1.2 W T
theorem kw_m2 : ∀ W : World, TabC W → Calls Tryd.prog 16 #[.agg #[.int .i64 0, .int .i64 3], .agg #[.int .i64 0, .int .i64 1], .int .i64 4] W fun e w' => e = .returned (.tuple #[.int .i64 0, .int .i64 0]) ∧ Below W.heap.size W w' := fun W T => cmov_at (c := (0, 3)) (d := (0, 1)) (x := 4) (y := 0) (e0 := 0) kf_m2.1 kf_m2.2 W T
theorem kw_m3 : ∀ W : World, TabC W → Calls Tryd.prog 16 #[.agg #[.int .i64 0, .int .i64 1], .agg #[.int .i64 3, .int .i64 5], .int .i64 12] W fun e w' => e = .returned (.tuple #[.int .i64 0, .int .i64 2]) ∧ Below W.heap.size W w' := fun W T => cmov_at (c := (0, 1)) (d := (3, 5)) (x := 12) (y := 0) (e0 := 2) kf_m3.1 kf_m3.2 W T
theorem kw_b0 : ∀ W : World, TabC W → Calls Tryd.prog 21 #[.int .i64 0, .slice none 0 0] W fun e w' => e = .returned (.tuple #[.agg #[.int .i64 0, .int .i64 1], .int .i64 0]) ∧ Below W.heap.size W w' := fun W T => best_nil (k := 0) (c := (0, 1)) (e0 := 0) kf_b0.1 kf_b0.2 W T
theorem kw_b2 : ∀ W : World, TabC W → Calls Tryd.prog 21 #[.int .i64 0, .slice (some ⟨W.heap.size, 0, none⟩) 2 2] (W.alloc (.cells #[.int .i64 0, .int .i64 3, .int .i64 0, .int .i64 0, .int .i64 6, .int .i64 0] 25)) fun e w' => e = .returned (.tuple #[.agg #[.int .i64 0, .int .i64 0], .int .i64 18]) ∧ Below W.heap.size W w' := fun W T => best_at (k := 0) (l := [(0, 3, 0), (0, 6, 0)]) (c := (0, 0)) (e0 := 18) (by decide) kf_b2.1 kf_b2.2 W T
theorem kw_g1 : ∀ W : World, TabC W → Calls Tryd.prog 25 #[.int .i64 (-1), .int .i64 0] W fun e w' => e = .returned (.bool true) ∧ Below W.heap.size W w' := fun W _ => ledg_true (x := (-1)) (n := 0) kf_g1.1 kf_g1.2 W
theorem kw_g2 : ∀ W : World, TabC W → Calls Tryd.prog 25 #[.int .i64 (-2), .int .i64 1] W fun e w' => e = .returned (.bool true) ∧ Below W.heap.size W w' := fun W _ => ledg_true (x := (-2)) (n := 1) kf_g2.1 kf_g2.2 W
theorem kw_g3 : ∀ W : World, TabC W → Calls Tryd.prog 25 #[.int .i64 (-4), .int .i64 2] W fun e w' => e = .returned (.bool true) ∧ Below W.heap.size W w' := fun W _ => ledg_true (x := (-4)) (n := 2) kf_g3.1 kf_g3.2 W
theorem kw_g4 : ∀ W : World, TabC W → Calls Tryd.prog 25 #[.int .i64 9, .int .i64 0] W fun e w' => e = .returned (.bool true) ∧ Below W.heap.size W w' := fun W _ => ledg_true (x := 9) (n := 0) kf_g4.1 kf_g4.2 W
theorem kw_g5 : ∀ W : World, TabC W → Calls Tryd.prog 25 #[.int .i64 11, .int .i64 1] W fun e w' => e = .returned (.bool true) ∧ Below W.heap.size W w' := fun W _ => ledg_true (x := 11) (n := 1) kf_g5.1 kf_g5.2 W

set_option maxRecDepth 100000 in
set_option maxHeartbeats 4000000 in
theorem cknown_any (w : World) (T : TabC w) : Calls Tryd.prog 6 #[] w fun e w' => e = .returned (.bool true) ∧ Below w.heap.size w w' := by
  have AW := Lib.hid (fun W T => cwake_any W T)
  have TB := Lib.hid (fun W (b : Below w.heap.size w W) => T.later b)
  clear T
  have Xa1 := Lib.hid kw_a1
  have Xa2 := Lib.hid kw_a2
  have Xa3 := Lib.hid kw_a3
  have Xa4 := Lib.hid kw_a4
  have Xo1 := Lib.hid kw_o1
  have Xo2 := Lib.hid kw_o2
  have Xpl := Lib.hid kw_pl
  have Xp1 := Lib.hid kw_p1
  have Xp2 := Lib.hid kw_p2
  have Xp3 := Lib.hid kw_p3
  have Xm1 := Lib.hid kw_m1
  have Xm2 := Lib.hid kw_m2
  have Xm3 := Lib.hid kw_m3
  have Xb0 := Lib.hid kw_b0
  have Xb2 := Lib.hid kw_b2
  have Xg1 := Lib.hid kw_g1
  have Xg2 := Lib.hid kw_g2
  have Xg3 := Lib.hid kw_g3
  have Xg4 := Lib.hid kw_g4
  have Xg5 := Lib.hid kw_g5
  have K1 := Lib.hid ((((Two2.made w (0, 1) 23).later (w_alloc (w_refl _) (cO (0, 3)))).later (w_alloc (w_refl _) (cO (4, 2)))).later (w_alloc (w_refl _) (cO (3, 5))))
  have K2 := Lib.hid (((Two2.made (w.alloc (cO (0, 1))) (0, 3) 23).later (w_alloc (w_refl _) (cO (4, 2)))).later (w_alloc (w_refl _) (cO (3, 5))))
  have K3 := Lib.hid ((Two2.made ((w.alloc (cO (0, 1))).alloc (cO (0, 3))) (4, 2) 23).later (w_alloc (w_refl _) (cO (3, 5))))
  have K4 := Lib.hid (Two2.made (((w.alloc (cO (0, 1))).alloc (cO (0, 3))).alloc (cO (4, 2))) (3, 5) 23)
  simp only [World.size_alloc] at K2 K3 K4
  have hB := Lib.hid (w_alloc (w_alloc (w_alloc (w_alloc (w_refl w) (cO (0, 1))) (cO (0, 3))) (cO (4, 2))) (cO (3, 5)))
  go_enter Tryd.func6, Tryd.ntmps6
  go_wp2_with fail
  refine (Xa1.out _ (TB.out _ hB.out)).mono ?_
  rintro e v1 ⟨rfl, hb⟩
  have hbX := hb
  replace hB := Lib.hid (w_below hB.out hbX)
  replace K1 := Lib.hid (K1.out.later hbX)
  replace K2 := Lib.hid (K2.out.later hbX)
  replace K3 := Lib.hid (K3.out.later hbX)
  replace K4 := Lib.hid (K4.out.later hbX)
  clear hb hbX Xa1
  go_wp2_with fail
  refine (Xa2.out _ (TB.out _ hB.out)).mono ?_
  rintro e v2 ⟨rfl, hb⟩
  have hbX := hb
  replace hB := Lib.hid (w_below hB.out hbX)
  replace K1 := Lib.hid (K1.out.later hbX)
  replace K2 := Lib.hid (K2.out.later hbX)
  replace K3 := Lib.hid (K3.out.later hbX)
  replace K4 := Lib.hid (K4.out.later hbX)
  clear hb hbX Xa2
  go_wp2_with fail
  refine (Xa3.out _ (TB.out _ hB.out)).mono ?_
  rintro e v3 ⟨rfl, hb⟩
  have hbX := hb
  replace hB := Lib.hid (w_below hB.out hbX)
  replace K1 := Lib.hid (K1.out.later hbX)
  replace K2 := Lib.hid (K2.out.later hbX)
  replace K3 := Lib.hid (K3.out.later hbX)
  replace K4 := Lib.hid (K4.out.later hbX)
  clear hb hbX Xa3
  go_wp2_with fail
  refine (Xa4.out _ (TB.out _ hB.out)).mono ?_
  rintro e v4 ⟨rfl, hb⟩
  have hbX := hb
  replace hB := Lib.hid (w_below hB.out hbX)
  replace K1 := Lib.hid (K1.out.later hbX)
  replace K2 := Lib.hid (K2.out.later hbX)
  replace K3 := Lib.hid (K3.out.later hbX)
  replace K4 := Lib.hid (K4.out.later hbX)
  clear hb hbX Xa4
  go_wp2_with fail
  refine (Xo1.out _ (TB.out _ hB.out)).mono ?_
  rintro e v5 ⟨rfl, hb⟩
  have hbX := hb
  replace hB := Lib.hid (w_below hB.out hbX)
  replace K1 := Lib.hid (K1.out.later hbX)
  replace K2 := Lib.hid (K2.out.later hbX)
  replace K3 := Lib.hid (K3.out.later hbX)
  replace K4 := Lib.hid (K4.out.later hbX)
  clear hb hbX Xo1
  go_wp2_with fail
  refine (Xo2.out _ (TB.out _ hB.out)).mono ?_
  rintro e v6 ⟨rfl, hb⟩
  have hbX := hb
  replace hB := Lib.hid (w_below hB.out hbX)
  replace K1 := Lib.hid (K1.out.later hbX)
  replace K2 := Lib.hid (K2.out.later hbX)
  replace K3 := Lib.hid (K3.out.later hbX)
  replace K4 := Lib.hid (K4.out.later hbX)
  clear hb hbX Xo2
  obtain ⟨_, p0, q0, _, _⟩ := K3.out
  simp only at p0 q0
  go_wp2_with fail
  clear p0 q0
  refine (Xpl.out _ (TB.out _ hB.out)).mono ?_
  rintro e v7 ⟨rfl, hb⟩
  have hbX := hb
  replace hB := Lib.hid (w_below hB.out hbX)
  replace K1 := Lib.hid (K1.out.later hbX)
  replace K2 := Lib.hid (K2.out.later hbX)
  replace K3 := Lib.hid (K3.out.later hbX)
  replace K4 := Lib.hid (K4.out.later hbX)
  clear hb hbX Xpl
  go_wp2_with fail
  refine (Xp1.out _ (TB.out _ hB.out)).mono ?_
  rintro e v8 ⟨rfl, hb⟩
  have hbX := w_alloc hb (pO (0, 0, 0))
  replace hB := Lib.hid (w_below hB.out hbX)
  replace K1 := Lib.hid (K1.out.later hbX)
  replace K2 := Lib.hid (K2.out.later hbX)
  replace K3 := Lib.hid (K3.out.later hbX)
  replace K4 := Lib.hid (K4.out.later hbX)
  clear hb hbX Xp1
  obtain ⟨_, p0, q0, _, _⟩ := K2.out
  simp only at p0 q0
  go_wp2_with fail
  clear p0 q0
  refine (Xp2.out _ (TB.out _ hB.out)).mono ?_
  rintro e v9 ⟨rfl, hb⟩
  have hbX := w_alloc hb (pO (0, 0, 0))
  replace hB := Lib.hid (w_below hB.out hbX)
  replace K1 := Lib.hid (K1.out.later hbX)
  replace K2 := Lib.hid (K2.out.later hbX)
  replace K3 := Lib.hid (K3.out.later hbX)
  replace K4 := Lib.hid (K4.out.later hbX)
  clear hb hbX Xp2
  obtain ⟨_, p0, q0, _, _⟩ := K2.out
  simp only at p0 q0
  go_wp2_with fail
  clear p0 q0
  refine (Xp3.out _ (TB.out _ hB.out)).mono ?_
  rintro e v10 ⟨rfl, hb⟩
  have hbX := w_alloc hb (pO (0, 0, 0))
  replace hB := Lib.hid (w_below hB.out hbX)
  replace K1 := Lib.hid (K1.out.later hbX)
  replace K2 := Lib.hid (K2.out.later hbX)
  replace K3 := Lib.hid (K3.out.later hbX)
  replace K4 := Lib.hid (K4.out.later hbX)
  clear hb hbX Xp3
  obtain ⟨_, p0, q0, _, _⟩ := K1.out
  simp only at p0 q0
  obtain ⟨_, p1, q1, _, _⟩ := K2.out
  simp only at p1 q1
  go_wp2_with fail
  clear p0 q0 p1 q1
  refine (Xm1.out _ (TB.out _ hB.out)).mono ?_
  rintro e v11 ⟨rfl, hb⟩
  have hbX := hb
  replace hB := Lib.hid (w_below hB.out hbX)
  replace K1 := Lib.hid (K1.out.later hbX)
  replace K2 := Lib.hid (K2.out.later hbX)
  replace K3 := Lib.hid (K3.out.later hbX)
  replace K4 := Lib.hid (K4.out.later hbX)
  clear hb hbX Xm1
  obtain ⟨_, p0, q0, _, _⟩ := K2.out
  simp only at p0 q0
  obtain ⟨_, p1, q1, _, _⟩ := K1.out
  simp only at p1 q1
  go_wp2_with fail
  clear p0 q0 p1 q1
  refine (Xm2.out _ (TB.out _ hB.out)).mono ?_
  rintro e v12 ⟨rfl, hb⟩
  have hbX := hb
  replace hB := Lib.hid (w_below hB.out hbX)
  replace K1 := Lib.hid (K1.out.later hbX)
  replace K2 := Lib.hid (K2.out.later hbX)
  replace K3 := Lib.hid (K3.out.later hbX)
  replace K4 := Lib.hid (K4.out.later hbX)
  clear hb hbX Xm2
  obtain ⟨_, p0, q0, _, _⟩ := K1.out
  simp only at p0 q0
  obtain ⟨_, p1, q1, _, _⟩ := K4.out
  simp only at p1 q1
  go_wp2_with fail
  clear p0 q0 p1 q1
  refine (Xm3.out _ (TB.out _ hB.out)).mono ?_
  rintro e v13 ⟨rfl, hb⟩
  have hbX := hb
  replace hB := Lib.hid (w_below hB.out hbX)
  replace K1 := Lib.hid (K1.out.later hbX)
  replace K2 := Lib.hid (K2.out.later hbX)
  replace K3 := Lib.hid (K3.out.later hbX)
  replace K4 := Lib.hid (K4.out.later hbX)
  clear hb hbX Xm3
  go_wp2_with fail
  refine (Xb0.out _ (TB.out _ hB.out)).mono ?_
  rintro e v14 ⟨rfl, hb⟩
  have hbX := w_alloc hb (cO (0, 1))
  replace hB := Lib.hid (w_below hB.out hbX)
  replace K1 := Lib.hid (K1.out.later hbX)
  replace K2 := Lib.hid (K2.out.later hbX)
  replace K3 := Lib.hid (K3.out.later hbX)
  replace K4 := Lib.hid (K4.out.later hbX)
  have K5 := Lib.hid (Two2.made v14 (0, 1) 23)
  clear hb hbX Xb0
  go_wp2_with fail
  have hsz := World.size_alloc v14 (cO (0, 1))
  have Xb3 := Lib.hid (Xb2.out (v14.alloc (cO (0, 1))) (TB.out _ hB.out))
  rw [hsz] at Xb3
  refine Xb3.out.mono ?_
  rintro e v15 ⟨rfl, hb⟩
  rw [← hsz] at hb
  have hbX := w_alloc hb (cO (0, 0))
  replace hB := Lib.hid (w_below hB.out hbX)
  replace K1 := Lib.hid (K1.out.later hbX)
  replace K2 := Lib.hid (K2.out.later hbX)
  replace K3 := Lib.hid (K3.out.later hbX)
  replace K4 := Lib.hid (K4.out.later hbX)
  replace K5 := Lib.hid (K5.out.later hbX)
  clear hb hbX Xb2 Xb3 hsz
  obtain ⟨_, p0, q0, _, _⟩ := K5.out
  simp only at p0 q0
  obtain ⟨_, p1, q1, _, _⟩ := K1.out
  simp only at p1 q1
  go_wp2_with fail
  clear p0 q0 p1 q1
  refine (AW.out _ (TB.out _ hB.out)).mono ?_
  rintro e v16 ⟨rfl, hb⟩
  have hbX := hb
  replace hB := Lib.hid (w_below hB.out hbX)
  replace K1 := Lib.hid (K1.out.later hbX)
  replace K2 := Lib.hid (K2.out.later hbX)
  replace K3 := Lib.hid (K3.out.later hbX)
  replace K4 := Lib.hid (K4.out.later hbX)
  replace K5 := Lib.hid (K5.out.later hbX)
  clear hb hbX AW
  go_wp2_with fail
  refine (Xg1.out _ (TB.out _ hB.out)).mono ?_
  rintro e v17 ⟨rfl, hb⟩
  have hbX := hb
  replace hB := Lib.hid (w_below hB.out hbX)
  replace K1 := Lib.hid (K1.out.later hbX)
  replace K2 := Lib.hid (K2.out.later hbX)
  replace K3 := Lib.hid (K3.out.later hbX)
  replace K4 := Lib.hid (K4.out.later hbX)
  replace K5 := Lib.hid (K5.out.later hbX)
  clear hb hbX Xg1
  go_wp2_with fail
  refine (Xg2.out _ (TB.out _ hB.out)).mono ?_
  rintro e v18 ⟨rfl, hb⟩
  have hbX := hb
  replace hB := Lib.hid (w_below hB.out hbX)
  replace K1 := Lib.hid (K1.out.later hbX)
  replace K2 := Lib.hid (K2.out.later hbX)
  replace K3 := Lib.hid (K3.out.later hbX)
  replace K4 := Lib.hid (K4.out.later hbX)
  replace K5 := Lib.hid (K5.out.later hbX)
  clear hb hbX Xg2
  go_wp2_with fail
  refine (Xg3.out _ (TB.out _ hB.out)).mono ?_
  rintro e v19 ⟨rfl, hb⟩
  have hbX := hb
  replace hB := Lib.hid (w_below hB.out hbX)
  replace K1 := Lib.hid (K1.out.later hbX)
  replace K2 := Lib.hid (K2.out.later hbX)
  replace K3 := Lib.hid (K3.out.later hbX)
  replace K4 := Lib.hid (K4.out.later hbX)
  replace K5 := Lib.hid (K5.out.later hbX)
  clear hb hbX Xg3
  go_wp2_with fail
  refine (Xg4.out _ (TB.out _ hB.out)).mono ?_
  rintro e v20 ⟨rfl, hb⟩
  have hbX := hb
  replace hB := Lib.hid (w_below hB.out hbX)
  replace K1 := Lib.hid (K1.out.later hbX)
  replace K2 := Lib.hid (K2.out.later hbX)
  replace K3 := Lib.hid (K3.out.later hbX)
  replace K4 := Lib.hid (K4.out.later hbX)
  replace K5 := Lib.hid (K5.out.later hbX)
  clear hb hbX Xg4
  go_wp2_with fail
  refine (Xg5.out _ (TB.out _ hB.out)).mono ?_
  rintro e v21 ⟨rfl, hb⟩
  have hbX := hb
  replace hB := Lib.hid (w_below hB.out hbX)
  replace K1 := Lib.hid (K1.out.later hbX)
  replace K2 := Lib.hid (K2.out.later hbX)
  replace K3 := Lib.hid (K3.out.later hbX)
  replace K4 := Lib.hid (K4.out.later hbX)
  replace K5 := Lib.hid (K5.out.later hbX)
  clear hb hbX Xg5
  go_wp2_with fail
  go_ret
  exact ⟨rfl, hB.out⟩

end Go.Proofs.YteomimeagloofaaDoor
