/- The program's Pitch, Place, Ledgers and Moved. -/
import Derived.Test.YteomimeagloofaaDoorCProgB
import Derived.BigRegion
import Derived.BigQuiet
namespace Go.Proofs.YteomimeagloofaaDoor
open Go.RowKit

set_option maxHeartbeats 4000000 in
theorem cpit_any (c : Cl) (k place acc : Int) (w : World) (T : TabC w) : Calls Tryd.prog 10 #[cv c, .int .i64 k, .int .i64 place, .int .i64 acc] w (PitPost c k place acc w) := by
  unfold PitPost
  have C := Lib.hid (fun W (b : Below w.heap.size w W) => cboth_any c k W (T.later b))
  have O := Lib.hid (fun W => cisp_any place W)
  have K := Lib.hid ((Two2.made w c 23).later (w_alloc (w_refl _) (pO (0, 0, 0))))
  have r0 := Lib.hid (HoldsB.new (w.alloc (cO c)) 25 #[.int .i64 0, .int .i64 0, .int .i64 0])
  rw [World.size_alloc] at r0
  have hB := Lib.hid (w_alloc (w_alloc (w_refl w) (cO c)) (pO (0, 0, 0)))
  by_cases hk : keyE c k = 0
  · rw [hk] at C
    by_cases ho : onP place
    · rw [decide_eq_true ho] at O
      obtain ⟨hc, hkb⟩ := keyE_zero hk
      have LO := Lib.hid (fun W (b : Below w.heap.size w W) => clow_any c hc W (T.later b))
      have TT := Lib.hid (fun W (b : Below w.heap.size w W) => T.later b)
      have hlb := low_bd hc
      by_cases ha : -1 ≤ acc ∧ acc ≤ 2
      · have he := pitE_ok hk ho ha
        rw [pitR_ok he, he]
        have hres := Lib.hid (show ∀ n, lowC c + place = n → pitC c k place acc = (n % 7, n / 7, altI k (n % 7) acc) from fun n e => by unfold pitC; rw [e])
        obtain ⟨ho1, ho2⟩ := ho
        generalize pitC c k place acc = R at *
        generalize lowC c = lo at *
        obtain ⟨n, hn⟩ : ∃ n, lo + place = n := ⟨_, rfl⟩
        have hres2 := Lib.hid (hres.out n hn)
        have hnb : 0 ≤ n ∧ n ≤ 62 := by omega
        have OF := Lib.hid (fun W => wof_any n 0 W (by omega) (by omega))
        unfold OfPost at OF
        rw [of_ok ⟨hnb, by decide⟩] at OF
        have xn : IntKind.i64.wrap (lo + place) = n := by rw [IntWalk.i64_in _ (by omega)]; exact hn
        have hsb : 0 ≤ n % 7 ∧ n % 7 ≤ 6 := by omega
        clear hk hc he hres hlb ho1 ho2 hn hnb T
        generalize n % 7 = ps at *
        generalize n / 7 = po at *
        obtain ⟨s, l⟩ := c
        have ca : acc = 0 ∨ acc = 2 ∨ acc = -1 ∨ acc = 1 := by omega
        clear ha
        go_enter Tryd.func10, Tryd.ntmps10
        go_wp2_with fail
        refine (C.out _ hB.out).mono ?_
        rintro e w1 ⟨rfl, hb⟩
        replace hB := Lib.hid (w_below hB.out hb)
        replace K := Lib.hid (K.out.later hb)
        replace r0 := Lib.hid (r0.out.later hb)
        clear hb C
        go_wp2_with fail
        obtain ⟨_, c0, c1, _, _⟩ := K.out
        simp only at c0 c1
        refine (O.out _).mono ?_
        rintro e w2 ⟨rfl, rfl⟩
        clear O
        go_wp2_with fail
        refine (LO.out _ hB.out).mono ?_
        rintro e w2 ⟨rfl, hb⟩
        replace hB := Lib.hid (w_below hB.out hb)
        replace r0 := Lib.hid (r0.out.later hb)
        clear hb LO c0 c1 K
        go_wp2_with fail
        refine (OF.out _).mono ?_
        rintro e w3 ⟨rfl, hb⟩
        replace r0 := Lib.hid (r0.out.later hb)
        replace hB := Lib.hid (w_below hB.out hb)
        clear hb OF
        rcases ca with rfl | rfl | rfl | rfl
        · have hr := Lib.hid (show R = (ps, po, flatI k ps) from hres2.out)
          have tk := (TT.out _ (w_alloc hB.out (pO (ps, po, 0)))).key hsb hkb
          clear hres2
          generalize flatI k ps = fl at *
          have r1 := Lib.hid (r0.out.al (pO (ps, po, fl)))
          obtain ⟨d0, d1, d2⟩ := pit_put r1.out (.int .i64 ps) (.int .i64 po) (.int .i64 fl)
          have e0 := r1.out.cell (j := 0) rfl
          have e1 := r1.out.cell (j := 1) rfl
          have e2 := r1.out.cell (j := 2) rfl
          have ef := r1.out.frozen
          obtain ⟨s1, s2⟩ := hsb
          obtain ⟨k1, k2⟩ := hkb
          have s3 : ps < 7 := by omega
          have k3 : k < 3 := by omega
          clear TT
          go_wp2_with fail
          refine bodyPost_ret (v := mpv (ps, po, fl) 0) (by simp [results, Tryd.results10, go_sem, d0, d1, d2]) rfl ⟨by rw [hr.out], ?_⟩
          exact w_put (w_put (w_put (w_alloc hB.out _) (by omega) _ _) (by omega) _ _) (by omega) _ _
        · have hr := Lib.hid (show R = (ps, po, 0) from hres2.out)
          clear hres2 TT hsb hkb
          have r1 := Lib.hid (r0.out.al (pO (ps, po, 0)))
          obtain ⟨d0, d1, d2⟩ := pit_put r1.out (.int .i64 ps) (.int .i64 po) (.int .i64 0)
          have e0 := r1.out.cell (j := 0) rfl
          have e1 := r1.out.cell (j := 1) rfl
          have e2 := r1.out.cell (j := 2) rfl
          have ef := r1.out.frozen
          go_wp2_with fail
          refine bodyPost_ret (v := mpv (ps, po, 0) 0) (by simp [results, Tryd.results10, go_sem, d0, d1, d2]) rfl ⟨by rw [hr.out], ?_⟩
          exact w_put (w_put (w_put (w_alloc hB.out _) (by omega) _ _) (by omega) _ _) (by omega) _ _
        · have hr := Lib.hid (show R = (ps, po, -1) from hres2.out)
          clear hres2 TT hsb hkb
          have r1 := Lib.hid (r0.out.al (pO (ps, po, -1)))
          obtain ⟨d0, d1, d2⟩ := pit_put r1.out (.int .i64 ps) (.int .i64 po) (.int .i64 (-1))
          have e0 := r1.out.cell (j := 0) rfl
          have e1 := r1.out.cell (j := 1) rfl
          have e2 := r1.out.cell (j := 2) rfl
          have ef := r1.out.frozen
          go_wp2_with fail
          refine bodyPost_ret (v := mpv (ps, po, -1) 0) (by simp [results, Tryd.results10, go_sem, d0, d1, d2]) rfl ⟨by rw [hr.out], ?_⟩
          exact w_put (w_put (w_put (w_alloc hB.out _) (by omega) _ _) (by omega) _ _) (by omega) _ _
        · have hr := Lib.hid (show R = (ps, po, 1) from hres2.out)
          clear hres2 TT hsb hkb
          have r1 := Lib.hid (r0.out.al (pO (ps, po, 1)))
          obtain ⟨d0, d1, d2⟩ := pit_put r1.out (.int .i64 ps) (.int .i64 po) (.int .i64 1)
          have e0 := r1.out.cell (j := 0) rfl
          have e1 := r1.out.cell (j := 1) rfl
          have e2 := r1.out.cell (j := 2) rfl
          have ef := r1.out.frozen
          go_wp2_with fail
          refine bodyPost_ret (v := mpv (ps, po, 1) 0) (by simp [results, Tryd.results10, go_sem, d0, d1, d2]) rfl ⟨by rw [hr.out], ?_⟩
          exact w_put (w_put (w_put (w_alloc hB.out _) (by omega) _ _) (by omega) _ _) (by omega) _ _
      · have he := pitE_acc (k := k) hk ho ha
        rw [pitR_no (by rw [he]; decide), he]
        obtain ⟨ho1, ho2⟩ := ho
        generalize lowC c = lo at *
        obtain ⟨n, hn⟩ : ∃ n, lo + place = n := ⟨_, rfl⟩
        have hnb : 0 ≤ n ∧ n ≤ 62 := by omega
        have OF := Lib.hid (fun W => wof_any n 0 W (by omega) (by omega))
        unfold OfPost at OF
        rw [of_ok ⟨hnb, by decide⟩] at OF
        have xn : IntKind.i64.wrap (lo + place) = n := by rw [IntWalk.i64_in _ (by omega)]; exact hn
        have n0 : (acc == 0) = false := by simp; omega
        have n1 : (acc == -1) = false := by simp; omega
        have n2 : (acc == 1) = false := by simp; omega
        have n3 : (acc == 2) = false := by simp; omega
        clear hk hc he hlb ho1 ho2 hn hnb T TT ha hkb
        generalize n % 7 = ps at *
        generalize n / 7 = po at *
        obtain ⟨s, l⟩ := c
        go_enter Tryd.func10, Tryd.ntmps10
        go_wp2_with fail
        refine (C.out _ hB.out).mono ?_
        rintro e w1 ⟨rfl, hb⟩
        replace hB := Lib.hid (w_below hB.out hb)
        replace K := Lib.hid (K.out.later hb)
        replace r0 := Lib.hid (r0.out.later hb)
        clear hb C
        go_wp2_with fail
        obtain ⟨_, c0, c1, _, _⟩ := K.out
        simp only at c0 c1
        refine (O.out _).mono ?_
        rintro e w2 ⟨rfl, rfl⟩
        clear O
        go_wp2_with fail
        refine (LO.out _ hB.out).mono ?_
        rintro e w2 ⟨rfl, hb⟩
        replace hB := Lib.hid (w_below hB.out hb)
        replace r0 := Lib.hid (r0.out.later hb)
        clear hb LO c0 c1 K
        go_wp2_with fail
        refine (OF.out _).mono ?_
        rintro e w3 ⟨rfl, hb⟩
        have r1 := Lib.hid ((r0.out.later hb).al (pO (ps, po, 0)))
        replace hB := Lib.hid (w_below hB.out hb)
        clear hb OF r0
        obtain ⟨d0, d1, d2⟩ := pit_put r1.out (.int .i64 0) (.int .i64 0) (.int .i64 0)
        have e0 := r1.out.cell (j := 0) rfl
        have e1 := r1.out.cell (j := 1) rfl
        have e2 := r1.out.cell (j := 2) rfl
        have ef := r1.out.frozen
        go_wp2_with fail
        refine bodyPost_ret (v := mpv (0, 0, 0) 8) (by simp [results, Tryd.results10, go_sem, d0, d1, d2]) rfl ⟨rfl, ?_⟩
        exact w_put (w_put (w_put (w_alloc hB.out _) (by omega) _ _) (by omega) _ _) (by omega) _ _
    · have he := pitE_on (acc := acc) hk ho
      rw [pitR_no (by rw [he]; decide), he]
      rw [decide_eq_false ho] at O
      clear hk he ho T
      obtain ⟨s, l⟩ := c
      go_enter Tryd.func10, Tryd.ntmps10
      go_wp2_with fail
      refine (C.out _ hB.out).mono ?_
      rintro e w1 ⟨rfl, hb⟩
      replace hB := Lib.hid (w_below hB.out hb)
      replace r0 := Lib.hid (r0.out.later hb)
      clear hb C K
      go_wp2_with fail
      refine (O.out _).mono ?_
      rintro e w2 ⟨rfl, rfl⟩
      clear O
      obtain ⟨d0, d1, d2⟩ := pit_put r0.out (.int .i64 0) (.int .i64 0) (.int .i64 0)
      have e0 := r0.out.cell (j := 0) rfl
      have e1 := r0.out.cell (j := 1) rfl
      have e2 := r0.out.cell (j := 2) rfl
      have ef := r0.out.frozen
      go_wp2_with fail
      refine bodyPost_ret (v := mpv (0, 0, 0) 2) (by simp [results, Tryd.results10, go_sem, d0, d1, d2]) rfl ⟨rfl, ?_⟩
      exact w_put (w_put (w_put hB.out (by omega) _ _) (by omega) _ _) (by omega) _ _
  · have he := pitE_key (place := place) (acc := acc) hk
    rw [pitR_no (by rw [he]; exact hk), he]
    have q1 : (keyE c k == 0) = false := by simp [hk]
    have q2 : (keyE c k != 0) = true := by simp [hk]
    clear hk he T O
    generalize keyE c k = E at *
    obtain ⟨s, l⟩ := c
    go_enter Tryd.func10, Tryd.ntmps10
    go_wp2_with fail
    refine (C.out _ hB.out).mono ?_
    rintro e w1 ⟨rfl, hb⟩
    replace hB := Lib.hid (w_below hB.out hb)
    replace r0 := Lib.hid (r0.out.later hb)
    clear hb C K
    obtain ⟨d0, d1, d2⟩ := pit_put r0.out (.int .i64 0) (.int .i64 0) (.int .i64 0)
    have e0 := r0.out.cell (j := 0) rfl
    have e1 := r0.out.cell (j := 1) rfl
    have e2 := r0.out.cell (j := 2) rfl
    have ef := r0.out.frozen
    go_wp2_with fail
    refine bodyPost_ret (v := mpv (0, 0, 0) E) (by simp [results, Tryd.results10, go_sem, d0, d1, d2]) rfl ⟨rfl, ?_⟩
    exact w_put (w_put (w_put hB.out (by omega) _ _) (by omega) _ _) (by omega) _ _

end Go.Proofs.YteomimeagloofaaDoor
