/- Statement GamutPlaces, as a walk. -/
import Derived.Test.YtaldbjhalpgkeaaDoorGLawD
namespace Go.Proofs.YtaldbjhalpgkeaaDoor
open Go.RowKit

/-- The statement's own boxes. -/
structure FrG (w W : World) (p : Pi3) (s : Sy) : Prop where
  bel : Below w.heap.size w W
  P : Cell3 W w.heap.size p
  S : Cell2 W (w.heap.size + 1) s
theorem FrG.later {w W W' : World} {p : Pi3} {s : Sy} (h : FrG w W p s) (k : Below W.heap.size W W') : FrG w W' p s := ⟨w_below h.bel k, h.P.later k, h.S.later k⟩
theorem FrG.start (w : World) (p : Pi3) (s : Sy) : FrG w ((w.alloc (pO p)).alloc (sO s)) p s :=
  ⟨w_alloc (w_alloc (w_refl w) _) _, (Cell3.made w p 23).later (w_alloc (w_refl _) _), by
    have := Cell2.made (w.alloc (pO p)) s 25
    rwa [World.size_alloc] at this⟩

set_option maxRecDepth 100000 in
set_option maxHeartbeats 4000000 in
theorem gplaces_any (p : Pi3) (s : Sy) (n : Int) (w : World) (tab : TabG w) :
    Calls Tryd.prog 3 #[pv p, sv s, .int .i64 n] w fun e w' => e = .returned (.bool true) ∧ Below w.heap.size w w' := by
  have TB := Lib.hid (fun W (b : Below w.heap.size w W) => tab.later b)
  have AW := Lib.hid (fun W b => gwake_any W (TB.out W b))
  clear tab
  have A1 := Lib.hid (fun W b => wplace_any p W (TB.out W b))
  have A2 := Lib.hid (fun W => rplace_any p W)
  have A3 := Lib.hid (fun W b => wways_any p W (TB.out W b))
  have A4 := Lib.hid (fun W => rways_any p W)
  have A5 := Lib.hid (fun W b => wpitch_any s W (TB.out W b))
  have A6 := Lib.hid (fun W => rpitch_any s W)
  have A7 := Lib.hid (fun W b => wname_any n W (TB.out W b))
  have A8 := Lib.hid (fun W => rname_any n W)
  have A9 := Lib.hid (fun W b => wword_any n W (TB.out W b))
  have A10 := Lib.hid (fun W => rword_any n W)
  have SA := Lib.hid (fun p q cp cq l W hp hq => sames_any p q cp cq l W hp hq)
  unfold WaysPost at A3 A4
  unfold PitPost at A5 A6
  generalize placeV p = v1 at *
  generalize (if okP p then waysL p else []) = v2 at *
  generalize chkV p = v3 at *
  generalize pitV s = v4 at *
  generalize nameV n = v5 at *
  generalize wordV n = v6 at *
  obtain ⟨a, ae⟩ := v1
  obtain ⟨g, ge⟩ := v4
  obtain ⟨t, te⟩ := v5
  obtain ⟨u, ue⟩ := v6
  have F0 := Lib.hid (FrG.start w p s)
  obtain ⟨_, c0, c1, c2, _, _, _⟩ := F0.out.P
  obtain ⟨_, d0, d1, _, _⟩ := F0.out.S
  go_enter Tryd.func3, Tryd.ntmps3
  go_wp2_with fail
  refine (A1.out _ F0.out.bel).mono ?_
  rintro e w1 ⟨rfl, hb⟩
  have F1 := Lib.hid (F0.out.later hb)
  clear hb A1 F0 c0 c1 c2
  obtain ⟨_, c0, c1, c2, _, _, _⟩ := F1.out.P
  go_wp2_with fail
  refine (A2.out _).mono ?_
  rintro e w2 ⟨rfl, hb⟩
  have F2 := Lib.hid (F1.out.later hb)
  clear hb A2 F1 c0 c1 c2
  obtain ⟨_, c0, c1, c2, _, _, _⟩ := F2.out.P
  go_wp2_with fail
  refine (A3.out _ F2.out.bel).mono ?_
  rintro e w3 ⟨v, rfl, ⟨q3, k3, rfl, hv⟩, hb⟩
  have F3 := Lib.hid (F2.out.later hb)
  have W3 := Lib.hid hv
  clear hb A3 F2 c0 c1 c2 hv
  obtain ⟨_, c0, c1, c2, _, _, _⟩ := F3.out.P
  go_wp2_with fail
  refine (A4.out _).mono ?_
  rintro e w4 ⟨v, rfl, ⟨q4, k4, rfl, hv⟩, hb⟩
  have F4 := Lib.hid (F3.out.later hb)
  have W3b := Lib.hid (W3.out.later hb)
  have W4 := Lib.hid hv
  clear hb A4 F3 c0 c1 c2 hv
  clear W3 d0 d1
  go_wp2_with fail
  refine (SA.out q3 q4 k3 k4 v2 _ W3b.out W4.out).mono ?_
  rintro e w5 ⟨rfl, hb⟩
  have F5 := Lib.hid (F4.out.later hb)
  clear hb F4 SA W3b W4
  obtain ⟨_, d0, d1, _, _⟩ := F5.out.S
  go_wp2_with fail
  refine (A5.out _ F5.out.bel).mono ?_
  rintro e w6 ⟨rfl, hb⟩
  have hw := w_below hb (w_alloc (w_refl w6) (pO g))
  have F6 := Lib.hid (F5.out.later hw)
  have X6 := Lib.hid (Cell3.made w6 g 23)
  clear hb hw A5 F5 d0 d1
  obtain ⟨_, d0, d1, _, _⟩ := F6.out.S
  go_wp2_with fail
  refine (A6.out _).mono ?_
  rintro e w7 ⟨rfl, hb⟩
  have hw := w_below hb (w_alloc (w_refl w7) (pO g))
  have F7 := Lib.hid (F6.out.later hw)
  have X7 := Lib.hid (X6.out.later hw)
  have Y7 := Lib.hid (Cell3.made w7 g 23)
  clear hb hw A6 F6 X6 d0 d1
  go_wp2_with fail
  refine (A7.out _ F7.out.bel).mono ?_
  rintro e w8 ⟨rfl, hb⟩
  have F8 := Lib.hid (F7.out.later hb)
  have X8 := Lib.hid (X7.out.later hb)
  have Y8 := Lib.hid (Y7.out.later hb)
  clear hb A7 F7 X7 Y7
  go_wp2_with fail
  refine (A8.out _).mono ?_
  rintro e w9 ⟨rfl, hb⟩
  have F9 := Lib.hid (F8.out.later hb)
  have X9 := Lib.hid (X8.out.later hb)
  have Y9 := Lib.hid (Y8.out.later hb)
  clear hb A8 F8 X8 Y8
  go_wp2_with fail
  refine (A9.out _ F9.out.bel).mono ?_
  rintro e w10 ⟨rfl, hb⟩
  have F10 := Lib.hid (F9.out.later hb)
  have X10 := Lib.hid (X9.out.later hb)
  have Y10 := Lib.hid (Y9.out.later hb)
  clear hb A9 F9 X9 Y9
  go_wp2_with fail
  refine (A10.out _).mono ?_
  rintro e w11 ⟨rfl, hb⟩
  have F11 := Lib.hid (F10.out.later hb)
  have X11 := Lib.hid (X10.out.later hb)
  have Y11 := Lib.hid (Y10.out.later hb)
  clear hb A10 F10 X10 Y10
  obtain ⟨_, c0, c1, c2, _, _, _⟩ := X11.out
  obtain ⟨_, d0, d1, d2, _, _, _⟩ := Y11.out
  go_wp2_with fail
  refine (AW.out _ F11.out.bel).mono ?_
  rintro e w12 ⟨rfl, hb⟩
  have F12 := Lib.hid (F11.out.later hb)
  clear hb F11 X11 Y11
  go_wp2_with fail
  go_ret
  exact ⟨rfl, F12.out.bel⟩

end Go.Proofs.YtaldbjhalpgkeaaDoor
