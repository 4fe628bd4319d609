/- ClefMoved returns true: places moved to another clef and back. -/
import Derived.Test.YteomimeagloofaaDoorCBack
namespace Go.Proofs.YteomimeagloofaaDoor
open Go.RowKit

theorem mov_of {c d : Cl} (hc : okC c) (hd : okC d) (x : Int) : (movE c d x = 0 ∧ onP x ∧ onP (x + lowC c - lowC d) ∧ movV c d x = x + lowC c - lowC d) ∨ (movE c d x = 2 ∧ movV c d x = 0) := by
  unfold movV movE
  rw [if_pos (chkC_ok hc), if_pos (chkC_ok hd)]
  by_cases h : onP x ∧ onP (x + lowC c - lowC d)
  · rw [if_pos h]; exact .inl ⟨rfl, h.1, h.2, if_pos rfl⟩
  · rw [if_neg h]; exact .inr ⟨rfl, if_neg (by decide)⟩
theorem mov_back {c d : Cl} (hc : okC c) (hd : okC d) {x : Int} (h1 : onP x) (h2 : onP (x + lowC c - lowC d)) : movE d c (x + lowC c - lowC d) = 0 ∧ movV d c (x + lowC c - lowC d) = x := by
  have e : movE d c (x + lowC c - lowC d) = 0 := by
    unfold movE
    rw [if_pos (chkC_ok hd), if_pos (chkC_ok hc), if_pos ⟨h2, by rw [show x + lowC c - lowC d + lowC d - lowC c = x by omega]; exact h1⟩]
  refine ⟨e, ?_⟩
  unfold movV
  rw [if_pos e]; omega

set_option maxRecDepth 100000 in
set_option maxHeartbeats 4000000 in
theorem lmoved_any (m0 n0 a0 b0 : Int) (hm : -9223372036854775808 ≤ m0 ∧ m0 ≤ 9223372036854775807) (hn : -9223372036854775808 ≤ n0 ∧ n0 ≤ 9223372036854775807) (ha : -9223372036854775808 ≤ a0 ∧ a0 ≤ 9223372036854775807) (hb : -9223372036854775808 ≤ b0 ∧ b0 ≤ 9223372036854775807) (w : World) (T : TabC w) :
    Calls Tryd.prog 8 #[.int .i64 m0, .int .i64 n0, .int .i64 a0, .int .i64 b0] w fun e w' => e = .returned (.bool true) ∧ Below w.heap.size w w' := by
  have KN := Lib.hid (fun W (b : Below w.heap.size w W) => cknown_any W (T.later b))
  have A1 := Lib.hid (fun W => all_any m0 hm W)
  have A2 := Lib.hid (fun W => all_any n0 hn W)
  have hc := clefN_ok (m0 % 15).toNat (by omega)
  have hd := clefN_ok (n0 % 15).toNat (by omega)
  generalize clefN (m0 % 15).toNat = c at *
  generalize clefN (n0 % 15).toNat = d at *
  have M1 := Lib.hid (fun W => mod_any a0 17 W ha.1 ha.2 (by decide) (by decide))
  have M2 := Lib.hid (fun W => mod_any b0 17 W hb.1 hb.2 (by decide) (by decide))
  obtain ⟨am, ha1⟩ : ∃ k, a0 % 17 = k := ⟨_, rfl⟩
  obtain ⟨bm, hb1⟩ : ∃ k, b0 % 17 = k := ⟨_, rfl⟩
  obtain ⟨a, ha2⟩ : ∃ k, am - 4 = k := ⟨_, rfl⟩
  obtain ⟨b, hb2⟩ : ∃ k, bm - 4 = k := ⟨_, rfl⟩
  rw [ha1] at M1
  rw [hb1] at M2
  have hab : onP a := by unfold onP; omega
  have hbb : -4 ≤ b ∧ b ≤ 12 := by omega
  have z1 : IntKind.i64.wrap (am - 4) = a := by rw [IntWalk.i64_in _ (by omega)]; exact ha2
  have z2 : IntKind.i64.wrap (bm - 4) = b := by rw [IntWalk.i64_in _ (by omega)]; exact hb2
  have G1 := Lib.hid (fun W (bb : Below w.heap.size w W) => cmov_at (c := c) (d := d) (x := a) rfl rfl W (T.later bb))
  have G2 := Lib.hid (fun W (bb : Below w.heap.size w W) => cmov_at (c := c) (d := d) (x := b) rfl rfl W (T.later bb))
  have F2 := mov_of hc hd b
  generalize movV c d b = y at *
  generalize movE c d b = ei at *
  rcases mov_of hc hd a with ⟨h1, h2, h3, h4⟩ | ⟨h1, h2⟩
  · rw [h1, h4] at G1
    obtain ⟨g1, g2⟩ := mov_back hc hd h2 h3
    have G3 := Lib.hid (fun W (bb : Below w.heap.size w W) => cmov_at g2 g1 W (T.later bb))
    have e1 := pitE_ok (k := 0) (acc := 0) (keyE_ok hc (by decide)) h2 (by decide)
    have e2 := pitE_ok (k := 0) (acc := 0) (keyE_ok hd (by decide)) h3 (by decide)
    have P1 := Lib.hid (fun W (bb : Below w.heap.size w W) => cpit_at (pitR_ok e1) e1 W (T.later bb))
    have P2 := Lib.hid (fun W (bb : Below w.heap.size w W) => cpit_at (pitR_ok e2) e2 W (T.later bb))
    rw [show pitC d 0 (a + lowC c - lowC d) 0 = pitC c 0 a 0 by unfold pitC; rw [show lowC d + (a + lowC c - lowC d) = lowC c + a by omega]] at P2
    generalize pitC c 0 a 0 = p at *
    have hlc := low_bd hc
    have hld := low_bd hd
    generalize lowC c = lc at *
    generalize lowC d = ld at *
    obtain ⟨x, hx⟩ : ∃ x, a + lc - ld = x := ⟨_, rfl⟩
    rw [hx] at G1 G3 P2
    have F3 : (ei = 0 ∧ y - b = x - a ∧ -16 ≤ y - b ∧ y - b ≤ 16) ∨ ei = 2 := by
      rcases F2 with ⟨q1, q2, q3, q4⟩ | ⟨q1, _⟩
      · exact .inl ⟨q1, by omega, by omega, by omega⟩
      · exact .inr q1
    have hxb : -4 ≤ x ∧ x ≤ 12 := by unfold onP at h3; omega
    obtain ⟨s0, l0⟩ := c
    obtain ⟨s1, l1⟩ := d
    obtain ⟨pa, pb, pc⟩ := p
    clear hm hn ha hb ha1 hb1 ha2 hb2 F2 h1 h2 h3 h4 g1 g2 e1 e2 hc hd hlc hld hx
    clear T
    go_enter Tryd.func8, Tryd.ntmps8
    go_wp2_with fail
    refine (KN.out _ (w_refl w)).mono ?_
    rintro e w1 ⟨rfl, hb⟩
    have hB := Lib.hid hb
    clear hb KN
    go_wp2_with fail
    refine (A1.out _).mono ?_
    rintro e w2 ⟨rfl, hb⟩
    replace hB := Lib.hid (w_below hB.out hb)
    clear hb A1
    go_wp2_with fail
    refine (A2.out _).mono ?_
    rintro e w3 ⟨rfl, hb⟩
    replace hB := Lib.hid (w_below hB.out hb)
    clear hb A2
    go_wp2_with fail
    replace hB := Lib.hid (w_alloc (w_alloc hB.out (cO (s0, l0))) (cO (s1, l1)))
    have KC := Lib.hid ((Two2.made w3 (s0, l0) 23).later (w_alloc (w_refl _) (cO (s1, l1))))
    have KD := Lib.hid (show Two2 _ (w3.heap.size + 1) (s1, l1) by have := Two2.made (w3.alloc (cO (s0, l0))) (s1, l1) 23; rwa [World.size_alloc] at this)
    refine (M1.out _).mono ?_
    rintro e w4 ⟨rfl, rfl⟩
    go_wp2_with fail
    refine (M2.out _).mono ?_
    rintro e w4 ⟨rfl, rfl⟩
    clear M1 M2
    obtain ⟨_, k1, k2, _, _⟩ := KC.out
    obtain ⟨_, k3, k4, _, _⟩ := KD.out
    simp only at k1 k2 k3 k4
    go_wp2_with fail
    clear k1 k2 k3 k4
    refine (G1.out _ hB.out).mono ?_
    rintro e w4 ⟨rfl, hb⟩
    replace hB := Lib.hid (w_below hB.out hb)
    replace KC := Lib.hid (KC.out.later hb)
    replace KD := Lib.hid (KD.out.later hb)
    clear hb G1
    obtain ⟨_, k1, k2, _, _⟩ := KC.out
    obtain ⟨_, k3, k4, _, _⟩ := KD.out
    simp only at k1 k2 k3 k4
    go_wp2_with fail
    clear k1 k2 k3 k4
    refine (G3.out _ hB.out).mono ?_
    rintro e w5 ⟨rfl, hb⟩
    replace hB := Lib.hid (w_below hB.out hb)
    replace KC := Lib.hid (KC.out.later hb)
    replace KD := Lib.hid (KD.out.later hb)
    clear hb G3
    obtain ⟨_, k1, k2, _, _⟩ := KC.out
    simp only at k1 k2
    go_wp2_with fail
    clear k1 k2
    refine (P1.out _ hB.out).mono ?_
    rintro e w6 ⟨rfl, hb⟩
    have hb9 := w_alloc hb (pO (pa, pb, pc))
    replace hB := Lib.hid (w_below hB.out hb9)
    replace KC := Lib.hid (KC.out.later hb9)
    replace KD := Lib.hid (KD.out.later hb9)
    have RA := Lib.hid (HoldsB.new w6 25 #[.int .i64 pa, .int .i64 pb, .int .i64 pc])
    clear hb hb9 P1
    obtain ⟨_, k1, k2, _, _⟩ := KD.out
    simp only at k1 k2
    go_wp2_with fail
    clear k1 k2
    refine (P2.out _ hB.out).mono ?_
    rintro e w7 ⟨rfl, hb⟩
    have hb9 := w_alloc hb (pO (pa, pb, pc))
    replace hB := Lib.hid (w_below hB.out hb9)
    replace KC := Lib.hid (KC.out.later hb9)
    replace KD := Lib.hid (KD.out.later hb9)
    replace RA := Lib.hid (RA.out.later hb9)
    obtain ⟨_, t1, t2, t3, _, _, _⟩ := Cell3.made w7 (pa, pb, pc) 25
    have r1 := RA.out.cell (j := 0) rfl
    have r2 := RA.out.cell (j := 1) rfl
    have r3 := RA.out.cell (j := 2) rfl
    clear hb hb9 P2
    obtain ⟨_, k1, k2, _, _⟩ := KC.out
    obtain ⟨_, k3, k4, _, _⟩ := KD.out
    simp only at k1 k2 k3 k4
    go_wp2_with fail
    clear k1 k2 k3 k4 r1 r2 r3 t1 t2 t3 RA KC KD
    refine (G2.out _ hB.out).mono ?_
    rintro e w8 ⟨rfl, hb⟩
    replace hB := Lib.hid (w_below hB.out hb)
    clear hb G2
    have z3 : IntKind.i64.wrap (x - a) = x - a := IntWalk.i64_in _ (by unfold onP at hab; omega)
    rcases F3 with ⟨rfl, q2, q3, q4⟩ | rfl
    · have z4 : IntKind.i64.wrap (y - b) = x - a := by rw [IntWalk.i64_in _ (by omega)]; exact q2
      go_wp2_with fail
      go_ret
      exact ⟨rfl, hB.out⟩
    · go_wp2_with fail
      go_ret
      exact ⟨rfl, hB.out⟩
  · rw [h1, h2] at G1
    obtain ⟨s0, l0⟩ := c
    obtain ⟨s1, l1⟩ := d
    clear hm hn ha hb ha1 hb1 ha2 hb2 F2 G2 h1 h2 hc hd
    clear T
    go_enter Tryd.func8, Tryd.ntmps8
    go_wp2_with fail
    refine (KN.out _ (w_refl w)).mono ?_
    rintro e w1 ⟨rfl, hb⟩
    have hB := Lib.hid hb
    clear hb KN
    go_wp2_with fail
    refine (A1.out _).mono ?_
    rintro e w2 ⟨rfl, hb⟩
    replace hB := Lib.hid (w_below hB.out hb)
    clear hb A1
    go_wp2_with fail
    refine (A2.out _).mono ?_
    rintro e w3 ⟨rfl, hb⟩
    replace hB := Lib.hid (w_below hB.out hb)
    clear hb A2
    go_wp2_with fail
    replace hB := Lib.hid (w_alloc (w_alloc hB.out (cO (s0, l0))) (cO (s1, l1)))
    have KC := Lib.hid ((Two2.made w3 (s0, l0) 23).later (w_alloc (w_refl _) (cO (s1, l1))))
    have KD := Lib.hid (show Two2 _ (w3.heap.size + 1) (s1, l1) by have := Two2.made (w3.alloc (cO (s0, l0))) (s1, l1) 23; rwa [World.size_alloc] at this)
    refine (M1.out _).mono ?_
    rintro e w4 ⟨rfl, rfl⟩
    go_wp2_with fail
    refine (M2.out _).mono ?_
    rintro e w4 ⟨rfl, rfl⟩
    clear M1 M2
    obtain ⟨_, k1, k2, _, _⟩ := KC.out
    obtain ⟨_, k3, k4, _, _⟩ := KD.out
    simp only at k1 k2 k3 k4
    go_wp2_with fail
    clear k1 k2 k3 k4
    refine (G1.out _ hB.out).mono ?_
    rintro e w4 ⟨rfl, hb⟩
    replace hB := Lib.hid (w_below hB.out hb)
    clear hb G1
    go_wp2_with fail
    go_ret
    exact ⟨rfl, hB.out⟩

end Go.Proofs.YteomimeagloofaaDoor
