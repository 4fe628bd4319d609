/- ClefBack returns true: places and pitches are inverse. -/
import Derived.Test.YteomimeagloofaaDoorCKnown
namespace Go.Proofs.YteomimeagloofaaDoor
open Go.RowKit

theorem back_on {c : Cl} (hc : okC c) {k x z : Int} (hk : 0 ≤ k ∧ k ≤ 2) (hx : onP x) (hz : -1 ≤ z ∧ z ≤ 1) :
    plaV c k ((lowC c + x) % 7, (lowC c + x) / 7, z) = (x, accI k ((lowC c + x) % 7, (lowC c + x) / 7, z), 0) := by
  have hlb := low_bd hc
  unfold onP at hx
  have hp : okP ((lowC c + x) % 7, (lowC c + x) / 7, z) := ⟨by simp only; omega, by simp only; omega, hz⟩
  have ha : atI c ((lowC c + x) % 7, (lowC c + x) / 7, z) = x := by unfold atI numI; simp only; omega
  have := pla_ok (keyE_ok hc hk) hp (by rw [ha]; exact hx)
  rw [ha] at this
  exact this
theorem alt_bd {k s acc : Int} (h : -1 ≤ acc ∧ acc ≤ 2) : -1 ≤ altI k s acc ∧ altI k s acc ≤ 1 := by
  unfold altI
  have := flat_bd k s
  split
  · omega
  split <;> omega
theorem acc_back {k : Int} {p : Pi3} (h : -1 ≤ p.2.2 ∧ p.2.2 ≤ 1) : (-1 ≤ accI k p ∧ accI k p ≤ 2) ∧ altI k p.1 (accI k p) = p.2.2 := by
  unfold accI
  by_cases h1 : p.2.2 = flatI k p.1
  · rw [if_pos h1]; exact ⟨by omega, by unfold altI; rw [if_pos rfl, h1]⟩
  · rw [if_neg h1]
    by_cases h2 : p.2.2 = 0
    · rw [if_pos h2]; exact ⟨by omega, by unfold altI; rw [if_neg (by decide), if_pos rfl, h2]⟩
    · rw [if_neg h2]; exact ⟨by omega, by unfold altI; rw [if_neg h2, if_neg (by omega)]⟩

set_option maxRecDepth 100000 in
set_option maxHeartbeats 4000000 in
theorem lback_any (n0 k0 x0 a0 : Int) (hn : -9223372036854775808 ≤ n0 ∧ n0 ≤ 9223372036854775807) (hk : -9223372036854775808 ≤ k0 ∧ k0 ≤ 9223372036854775807) (hx : -9223372036854775808 ≤ x0 ∧ x0 ≤ 9223372036854775807) (ha : -9223372036854775808 ≤ a0 ∧ a0 ≤ 9223372036854775807) (w : World) (T : TabC w) :
    Calls Tryd.prog 7 #[.int .i64 n0, .int .i64 k0, .int .i64 x0, .int .i64 a0] w fun e w' => e = .returned (.bool true) ∧ Below w.heap.size w w' := by
  have KN := Lib.hid (fun W (b : Below w.heap.size w W) => cknown_any W (T.later b))
  have AL := Lib.hid (fun W => all_any n0 hn W)
  have hc := clefN_ok (n0 % 15).toNat (by omega)
  generalize clefN (n0 % 15).toNat = c at *
  have M1 := Lib.hid (fun W => mod_any k0 3 W hk.1 hk.2 (by decide) (by decide))
  have M2 := Lib.hid (fun W => mod_any x0 17 W hx.1 hx.2 (by decide) (by decide))
  have M3 := Lib.hid (fun W => mod_any a0 4 W ha.1 ha.2 (by decide) (by decide))
  obtain ⟨k, hk1⟩ : ∃ k, k0 % 3 = k := ⟨_, rfl⟩
  obtain ⟨xm, hx1⟩ : ∃ k, x0 % 17 = k := ⟨_, rfl⟩
  obtain ⟨am, ha1⟩ : ∃ k, a0 % 4 = k := ⟨_, rfl⟩
  obtain ⟨x, hx2⟩ : ∃ k, xm - 4 = k := ⟨_, rfl⟩
  obtain ⟨acc, ha2⟩ : ∃ k, am - 1 = k := ⟨_, rfl⟩
  rw [hk1] at M1
  rw [hx1] at M2
  rw [ha1] at M3
  have hkb : 0 ≤ k ∧ k ≤ 2 := by omega
  have hxb : onP x := by unfold onP; omega
  have hab : -1 ≤ acc ∧ acc ≤ 2 := by omega
  have z1 : IntKind.i64.wrap (xm - 4) = x := by rw [IntWalk.i64_in _ (by omega)]; exact hx2
  have z2 : IntKind.i64.wrap (am - 1) = acc := by rw [IntWalk.i64_in _ (by omega)]; exact ha2
  have e1 := pitE_ok (keyE_ok hc hkb) hxb hab
  have hb := alt_bd (k := k) (s := (lowC c + x) % 7) hab
  have PL := Lib.hid (show ∀ z, -1 ≤ z ∧ z ≤ 1 → ∀ W, Below w.heap.size w W → Calls Tryd.prog 19 #[cv c, .int .i64 k, pv ((lowC c + x) % 7, (lowC c + x) / 7, z)] W fun e w' => e = .returned (.tuple #[.int .i64 x, .int .i64 (accI k ((lowC c + x) % 7, (lowC c + x) / 7, z)), .int .i64 0]) ∧ Below W.heap.size W w' from fun z hz W b => by
    have := cpla_any c k ((lowC c + x) % 7, (lowC c + x) / 7, z) W (T.later b)
    unfold PlaPost at this
    rw [back_on hc hkb hxb hz] at this
    exact this)
  have P1 := Lib.hid (fun W (b : Below w.heap.size w W) => cpit_at (p := ((lowC c + x) % 7, (lowC c + x) / 7, altI k ((lowC c + x) % 7) acc)) (by rw [pitR_ok e1]; rfl) e1 W (T.later b))
  obtain ⟨hb2, hb3⟩ := acc_back (k := k) (p := ((lowC c + x) % 7, (lowC c + x) / 7, altI k ((lowC c + x) % 7) acc)) hb
  have e2 := pitE_ok (keyE_ok hc hkb) hxb hb2
  have P2 := Lib.hid (fun W (b : Below w.heap.size w W) => cpit_at (p := ((lowC c + x) % 7, (lowC c + x) / 7, altI k ((lowC c + x) % 7) acc)) (by rw [pitR_ok e2]; unfold pitC; rw [hb3]) e2 W (T.later b))
  generalize (lowC c + x) % 7 = ps at *
  generalize (lowC c + x) / 7 = po at *
  generalize altI k ps acc = pa at *
  have PL1 := Lib.hid (fun W bb => PL.out pa hb W bb)
  generalize accI k (ps, po, pa) = ac2 at *
  clear hn hk hx ha hk1 hx1 ha1 hx2 ha2 hkb hxb hab e1 e2 hb hb2 hb3 hc T
  obtain ⟨s0, l0⟩ := c
  go_enter Tryd.func7, Tryd.ntmps7
  go_wp2_with fail
  refine (KN.out _ (w_refl w)).mono ?_
  rintro e w1 ⟨rfl, hb⟩
  have hB := Lib.hid hb
  clear hb KN
  go_wp2_with fail
  refine (AL.out _).mono ?_
  rintro e w2 ⟨rfl, hb⟩
  replace hB := Lib.hid (w_alloc (w_below hB.out hb) (cO (s0, l0)))
  have KC := Lib.hid (Two2.made w2 (s0, l0) 23)
  clear hb AL
  go_wp2_with fail
  refine (M1.out _).mono ?_
  rintro e w3 ⟨rfl, rfl⟩
  go_wp2_with fail
  refine (M2.out _).mono ?_
  rintro e w3 ⟨rfl, rfl⟩
  go_wp2_with fail
  refine (M3.out _).mono ?_
  rintro e w3 ⟨rfl, rfl⟩
  clear M1 M2 M3
  go_wp2_with fail
  refine (P1.out _ hB.out).mono ?_
  rintro e w4 ⟨rfl, hb⟩
  have hlt1 : w2.heap.size < w4.heap.size := (KC.out.later hb).inb
  have hle1 : w.heap.size ≤ w4.heap.size := (w_below hB.out hb).size
  have hb9 := w_alloc hb (pO (ps, po, pa))
  replace hB := Lib.hid (w_below hB.out hb9)
  replace KC := Lib.hid (KC.out.later hb9)
  have RA := Lib.hid (HoldsB.new w4 25 #[.int .i64 ps, .int .i64 po, .int .i64 pa])
  clear hb hb9 P1
  obtain ⟨_, k1, k2, _, _⟩ := KC.out
  simp only at k1 k2
  go_wp2_with fail
  clear k1 k2
  refine (PL1.out _ hB.out).mono ?_
  rintro e w5 ⟨rfl, hb⟩
  replace hB := Lib.hid (w_below hB.out hb)
  replace KC := Lib.hid (KC.out.later hb)
  replace RA := Lib.hid (RA.out.later hb)
  clear hb PL1
  obtain ⟨_, k1, k2, _, _⟩ := KC.out
  simp only at k1 k2
  go_wp2_with fail
  clear k1 k2
  refine (P2.out _ hB.out).mono ?_
  rintro e w6 ⟨rfl, hb⟩
  have hb9 := w_alloc hb (pO (ps, po, pa))
  replace hB := Lib.hid (w_below hB.out hb9)
  replace KC := Lib.hid (KC.out.later hb9)
  replace RA := Lib.hid (RA.out.later hb9)
  obtain ⟨_, s1, s2, s3, _, _, _⟩ := Cell3.made w6 (ps, po, pa) 25
  have r1 := RA.out.cell (j := 0) rfl
  have r2 := RA.out.cell (j := 1) rfl
  have r3 := RA.out.cell (j := 2) rfl
  clear hb hb9 P2
  go_wp2_with fail
  clear r1 r2 r3 s1 s2 s3
  go_loopw [18] (fun s18 wr => ∃ (j : Nat) (za : Int), j ≤ 3 ∧ s18 = .int .i64 (-1 + (j : Int)) ∧ Hid (Two2 wr w2.heap.size (s0, l0)) ∧ Hid (HoldsB wr w4.heap.size 25 #[.int .i64 ps, .int .i64 po, .int .i64 za]) ∧ Hid (Below w.heap.size w wr)) (fun s18 _ => (3 - intOf s18).toNat)
  case atStart => exact ⟨0, pa, by omega, rfl, KC, RA, hB⟩
  case round =>
    clear KC RA hB
    rename World => wr
    obtain ⟨j, za, hj, rfl, KC, RA, hB⟩ := hrel
    obtain ⟨z, hz⟩ : ∃ z, -1 + (j : Int) = z := ⟨_, rfl⟩
    rw [hz]
    by_cases hlt : j < 3
    · have hz1 : z ≤ 1 := by omega
      have P3 := Lib.hid (fun W bb => PL.out z (by omega) W bb)
      generalize accI k (ps, po, z) = ac3 at *
      have hne : w2.heap.size ≠ w4.heap.size := by omega
      have hle : w.heap.size ≤ w4.heap.size := hle1
      have r3 := RA.out.cell (j := 2) rfl
      have rf := RA.out.frozen 2
      have RB := Lib.hid (show HoldsB (wr.setCell ⟨w4.heap.size, 2, none⟩ (.int .i64 z)) w4.heap.size 25 #[.int .i64 ps, .int .i64 po, .int .i64 z] from RA.out.set 2 (.int .i64 z))
      have t1 := RB.out.cell (j := 0) rfl
      have t2 := RB.out.cell (j := 1) rfl
      have t3 := RB.out.cell (j := 2) rfl
      have u1 := gkept (k := 2) (v := .int .i64 z) KC.out.c0 (.inl hne)
      have u2 := gkept (k := 2) (v := .int .i64 z) KC.out.c1 (.inl hne)
      have r1 := RA.out.cell (j := 0) rfl
      have r2 := RA.out.cell (j := 1) rfl
      have k1 := KC.out.c0
      have k2 := KC.out.c1
      have hB2 := Lib.hid (w_put hB.out hle 2 (.int .i64 z))
      have KD := Lib.hid (show Two2 (wr.setCell ⟨w4.heap.size, 2, none⟩ (.int .i64 z)) w2.heap.size (s0, l0) from ⟨by simpa using KC.out.inb, u1, u2, by rw [World.frozen?_setCell]; exact KC.out.f0, by rw [World.frozen?_setCell]; exact KC.out.f1⟩)
      simp only at k1 k2 u1 u2
      clear PL KC RA hB
      go_wp2_with fail
      refine (P3.out _ hB2.out).mono ?_
      rintro e w7 ⟨rfl, hb⟩
      have KE := Lib.hid (KD.out.later hb)
      have RE := Lib.hid (RB.out.later hb)
      have hB3 := Lib.hid (w_below hB2.out hb)
      clear hb P3 r1 r2 r3 rf t1 t2 t3 u1 u2 k1 k2 KD RB hB2
      go_wp2_with fail
      go_roundw
      case rel => exact ⟨j + 1, z, by omega, by rw [show -1 + ((j + 1 : Nat) : Int) = z + 1 by omega], KE, RE, hB3⟩
      case measure => simp [intOf]; omega
    · have hz1 : 1 < z := by omega
      go_wp2_with fail
      go_ret
      exact ⟨rfl, hB.out⟩

end Go.Proofs.YteomimeagloofaaDoor
