/- The program's Place. -/
import Derived.Test.YteomimeagloofaaDoorCProgC
namespace Go.Proofs.YteomimeagloofaaDoor
open Go.RowKit

set_option maxHeartbeats 4000000 in
theorem cpla_any (c : Cl) (k : Int) (p : Pi3) (w : World) (T : TabC w) : Calls Tryd.prog 19 #[cv c, .int .i64 k, pv p] w (PlaPost c k p w) := by
  unfold PlaPost
  have C := Lib.hid (fun W (b : Below w.heap.size w W) => cboth_any c k W (T.later b))
  have CP := Lib.hid (fun W => wnumber_any p W)
  have K := Lib.hid ((Two2.made w c 23).later (w_alloc (w_refl _) (pO p)))
  have R := Lib.hid (Cell3.made (w.alloc (cO c)) p 25)
  rw [World.size_alloc] at R
  have hB := Lib.hid (w_alloc (w_alloc (w_refl w) (cO c)) (pO p))
  by_cases hk : keyE c k = 0
  · rw [hk] at C
    obtain ⟨hc, hkb⟩ := keyE_zero hk
    by_cases hp : okP p
    · rw [numV_ok hp] at CP
      have LO := Lib.hid (fun W (b : Below w.heap.size w W) => clow_any c hc W (T.later b))
      have AC := Lib.hid (fun W (b : Below w.heap.size w W) => cacc_any k hkb p hp W (T.later b))
      have hlb := low_bd hc
      have hnb := num_bd hp
      by_cases ho : onP (atI c p)
      · rw [pla_ok hk hp ho]
        have O := Lib.hid (fun W => cisp_any (atI c p) W)
        rw [decide_eq_true ho] at O
        have x1 : IntKind.i64.wrap (numI p - lowC c) = atI c p := IntWalk.i64_in _ (by omega)
        clear hk hc hkb hp ho hlb hnb T
        generalize atI c p = at0 at *
        generalize accI k p = ac at *
        generalize lowC c = lo at *
        generalize numI p = m at *
        obtain ⟨s, o, a⟩ := p
        obtain ⟨s0, l0⟩ := c
        go_enter Tryd.func19, Tryd.ntmps19
        go_wp2_with fail
        refine (C.out _ hB.out).mono ?_
        rintro e w1 ⟨rfl, hb⟩
        replace hB := Lib.hid (w_below hB.out hb)
        replace K := Lib.hid (K.out.later hb)
        replace R := Lib.hid (R.out.later hb)
        clear hb C
        obtain ⟨_, r0, r1, r2, _, _, _⟩ := R.out
        simp only at r0 r1 r2
        go_wp2_with fail
        clear r0 r1 r2
        refine (CP.out _).mono ?_
        rintro e w2 ⟨rfl, hb⟩
        replace hB := Lib.hid (w_below hB.out hb)
        replace K := Lib.hid (K.out.later hb)
        replace R := Lib.hid (R.out.later hb)
        clear hb CP
        obtain ⟨_, k0, k1, _, _⟩ := K.out
        simp only at k0 k1
        go_wp2_with fail
        clear k0 k1 K
        refine (LO.out _ hB.out).mono ?_
        rintro e w3 ⟨rfl, hb⟩
        replace hB := Lib.hid (w_below hB.out hb)
        replace R := Lib.hid (R.out.later hb)
        clear hb LO
        go_wp2_with fail
        refine (O.out _).mono ?_
        rintro e w4 ⟨rfl, rfl⟩
        obtain ⟨_, r0, r1, r2, _, _, _⟩ := R.out
        simp only at r0 r1 r2
        go_wp2_with fail
        clear r0 r1 r2
        refine (AC.out _ hB.out).mono ?_
        rintro e w4 ⟨rfl, hb⟩
        replace hB := Lib.hid (w_below hB.out hb)
        clear hb AC O R
        go_wp2_with fail
        go_ret3
        exact ⟨rfl, hB.out⟩
      · rw [pla_on hk hp ho]
        have O := Lib.hid (fun W => cisp_any (atI c p) W)
        rw [decide_eq_false ho] at O
        have x1 : IntKind.i64.wrap (numI p - lowC c) = atI c p := IntWalk.i64_in _ (by omega)
        clear hk hc hkb hp ho hlb hnb T AC
        generalize atI c p = at0 at *
        generalize lowC c = lo at *
        generalize numI p = m at *
        obtain ⟨s, o, a⟩ := p
        obtain ⟨s0, l0⟩ := c
        go_enter Tryd.func19, Tryd.ntmps19
        go_wp2_with fail
        refine (C.out _ hB.out).mono ?_
        rintro e w1 ⟨rfl, hb⟩
        replace hB := Lib.hid (w_below hB.out hb)
        replace K := Lib.hid (K.out.later hb)
        replace R := Lib.hid (R.out.later hb)
        clear hb C
        obtain ⟨_, r0, r1, r2, _, _, _⟩ := R.out
        simp only at r0 r1 r2
        go_wp2_with fail
        clear r0 r1 r2
        refine (CP.out _).mono ?_
        rintro e w2 ⟨rfl, hb⟩
        replace hB := Lib.hid (w_below hB.out hb)
        replace K := Lib.hid (K.out.later hb)
        clear hb CP R
        obtain ⟨_, k0, k1, _, _⟩ := K.out
        simp only at k0 k1
        go_wp2_with fail
        clear k0 k1 K
        refine (LO.out _ hB.out).mono ?_
        rintro e w3 ⟨rfl, hb⟩
        replace hB := Lib.hid (w_below hB.out hb)
        clear hb LO
        go_wp2_with fail
        refine (O.out _).mono ?_
        rintro e w4 ⟨rfl, rfl⟩
        go_wp2_with fail
        go_ret3
        exact ⟨rfl, hB.out⟩
    · rw [pla_chk hk hp]
      rw [numV_no hp] at CP
      clear hk hc hkb hp T
      obtain ⟨s, o, a⟩ := p
      obtain ⟨s0, l0⟩ := c
      go_enter Tryd.func19, Tryd.ntmps19
      go_wp2_with fail
      refine (C.out _ hB.out).mono ?_
      rintro e w1 ⟨rfl, hb⟩
      replace hB := Lib.hid (w_below hB.out hb)
      replace R := Lib.hid (R.out.later hb)
      clear hb C K
      obtain ⟨_, r0, r1, r2, _, _, _⟩ := R.out
      simp only at r0 r1 r2
      go_wp2_with fail
      clear r0 r1 r2 R
      refine (CP.out _).mono ?_
      rintro e w2 ⟨rfl, hb⟩
      replace hB := Lib.hid (w_below hB.out hb)
      clear hb CP
      go_wp2_with fail
      go_ret3
      exact ⟨rfl, hB.out⟩
  · rw [pla_key hk]
    have q1 : (keyE c k == 0) = false := by simp [hk]
    have q2 : (keyE c k != 0) = true := by simp [hk]
    clear hk T CP
    generalize keyE c k = E at *
    obtain ⟨s, o, a⟩ := p
    obtain ⟨s0, l0⟩ := c
    go_enter Tryd.func19, Tryd.ntmps19
    go_wp2_with fail
    refine (C.out _ hB.out).mono ?_
    rintro e w1 ⟨rfl, hb⟩
    replace hB := Lib.hid (w_below hB.out hb)
    clear hb C K R
    go_wp2_with fail
    go_ret3
    exact ⟨rfl, hB.out⟩

end Go.Proofs.YteomimeagloofaaDoor
