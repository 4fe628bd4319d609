/- The reference's Pitch, Place and Moved. -/
import Derived.Test.YteomimeagloofaaDoorCRefA
import Derived.BigRegion
import Derived.Deep.RegionHeld3
namespace Go.Proofs.YteomimeagloofaaDoor
open Go.RowKit

set_option maxHeartbeats 1000000 in
theorem rcheck_any (p : Pi3) (w : World) : Calls Tryd.prog 41 #[pv p] w fun e w' => e = .returned (.int .i64 (chkV p)) ∧ Below w.heap.size w w' := by
  have hc : (chkV p = 2 ∧ ¬ okP p) ∨ (chkV p = 0 ∧ okP p) := by
    by_cases h : okP p
    · exact .inr ⟨if_pos h, h⟩
    · exact .inl ⟨if_neg h, h⟩
  obtain ⟨s, o, a⟩ := p
  rcases hc with ⟨e, h⟩ | ⟨e, h⟩
  · rw [e]
    unfold okP at h
    simp only at h
    clear e
    have ways : s < 0 ∨ (0 ≤ s ∧ 6 < s) ∨ (0 ≤ s ∧ s ≤ 6 ∧ o < 0) ∨ (0 ≤ s ∧ s ≤ 6 ∧ 0 ≤ o ∧ 8 < o) ∨ (0 ≤ s ∧ s ≤ 6 ∧ 0 ≤ o ∧ o ≤ 8 ∧ a < -1) ∨ (0 ≤ s ∧ s ≤ 6 ∧ 0 ≤ o ∧ o ≤ 8 ∧ -1 ≤ a ∧ 1 < a) := by omega
    clear h
    rcases ways with h | ⟨h1, h2⟩ | ⟨h1, h2, h3⟩ | ⟨h1, h2, h3, h4⟩ | ⟨h1, h2, h3, h4, h5⟩ | ⟨h1, h2, h3, h4, h5, h6⟩
    all_goals
      go_enter Tryd.func41, Tryd.ntmps41
      go_wp2_with fail
      go_ret
      exact ⟨rfl, w_alloc (w_refl w) _⟩
  · rw [e]
    obtain ⟨⟨h1, h2⟩, ⟨h3, h4⟩, h5, h6⟩ := h
    simp only at h1 h2 h3 h4 h5 h6
    clear e
    go_enter Tryd.func41, Tryd.ntmps41
    go_wp2_with fail
    go_ret
    exact ⟨rfl, w_alloc (w_refl w) _⟩

abbrev mpv (p : Pi3) (e : Int) : Value := .tuple #[pv p, .int .i64 e]
def PitPost (c : Cl) (k place acc : Int) (w : World) (e : Ending) (w' : World) : Prop := e = .returned (mpv (pitR c k place acc) (pitE c k place acc)) ∧ Below w.heap.size w w'
def PlaPost (c : Cl) (k : Int) (p : Pi3) (w : World) (e : Ending) (w' : World) : Prop := e = .returned (.tuple #[.int .i64 (plaV c k p).1, .int .i64 (plaV c k p).2.1, .int .i64 (plaV c k p).2.2]) ∧ Below w.heap.size w w'
def MovPost (c d : Cl) (x : Int) (w : World) (e : Ending) (w' : World) : Prop := e = .returned (.tuple #[.int .i64 (movV c d x), .int .i64 (movE c d x)]) ∧ Below w.heap.size w w'
theorem pitR_ok {c : Cl} {k place acc : Int} (h : pitE c k place acc = 0) : pitR c k place acc = pitC c k place acc := if_pos h
theorem pitR_no {c : Cl} {k place acc : Int} (h : ¬ pitE c k place acc = 0) : pitR c k place acc = (0, 0, 0) := if_neg h
theorem pitE_key {c : Cl} {k place acc : Int} (h : ¬ keyE c k = 0) : pitE c k place acc = keyE c k := if_neg h
theorem pitE_on {c : Cl} {k place acc : Int} (h : keyE c k = 0) (ho : ¬ onP place) : pitE c k place acc = 2 := by unfold pitE; rw [if_pos h, if_neg ho]
theorem pitE_acc {c : Cl} {k place acc : Int} (h : keyE c k = 0) (ho : onP place) (ha : ¬ (-1 ≤ acc ∧ acc ≤ 2)) : pitE c k place acc = 8 := by unfold pitE; rw [if_pos h, if_pos ho, if_neg ha]
theorem pitE_ok {c : Cl} {k place acc : Int} (h : keyE c k = 0) (ho : onP place) (ha : -1 ≤ acc ∧ acc ≤ 2) : pitE c k place acc = 0 := by unfold pitE; rw [if_pos h, if_pos ho, if_pos ha]
/-- Three cells of a result. -/
theorem pit_put {w1 : World} {b : Nat} {t : TypeId} {x0 x1 x2 : Value} (h : HoldsB w1 b t #[x0, x1, x2]) (A B C : Value) :
    (w1.setCell ⟨b, 0, none⟩ A).cell? ⟨b, 0, none⟩ = some A ∧ ((w1.setCell ⟨b, 0, none⟩ A).setCell ⟨b, 1, none⟩ B).cell? ⟨b, 1, none⟩ = some B ∧
    (((w1.setCell ⟨b, 0, none⟩ A).setCell ⟨b, 1, none⟩ B).setCell ⟨b, 2, none⟩ C).cell? ⟨b, 2, none⟩ = some C := by
  have h0 := h.set 0 A
  have h1 := h0.set 1 B
  have h2 := h1.set 2 C
  exact ⟨h0.cell rfl, h1.cell rfl, h2.cell rfl⟩

set_option maxHeartbeats 4000000 in
theorem rcpit_any (c : Cl) (k place acc : Int) (w : World) : Calls Tryd.prog 11 #[cv c, .int .i64 k, .int .i64 place, .int .i64 acc] w (PitPost c k place acc w) := by
  unfold PitPost
  have C := Lib.hid (fun W => rkey_any c k W)
  have O := Lib.hid (fun W => ron_any place W)
  have K := Lib.hid ((Two2.made w c 23).later (w_alloc (w_refl _) (pO (0, 0, 0))))
  have r0 := Lib.hid (HoldsB.new (w.alloc (cO c)) 25 #[.int .i64 0, .int .i64 0, .int .i64 0])
  rw [World.size_alloc] at r0
  have hB := Lib.hid (w_alloc (w_alloc (w_refl w) (cO c)) (pO (0, 0, 0)))
  by_cases hk : keyE c k = 0
  · rw [hk] at C
    by_cases ho : onP place
    · rw [decide_eq_true ho] at O
      by_cases ha : -1 ≤ acc ∧ acc ≤ 2
      · have he := pitE_ok hk ho ha
        rw [pitR_ok he, he]
        obtain ⟨hc, hkb⟩ := keyE_zero hk
        have LO := Lib.hid (fun W => rlow_any c hc W)
        have hlb := low_bd hc
        have FL := Lib.hid (fun s W => rflat_any k s hkb W)
        have hres := Lib.hid (show ∀ n, lowC c + place = n → pitC c k place acc = (n % 7, n / 7, altI k (n % 7) acc) from fun n e => by unfold pitC; rw [e])
        obtain ⟨ho1, ho2⟩ := ho
        generalize pitC c k place acc = R at *
        generalize lowC c = lo at *
        obtain ⟨n, hn⟩ : ∃ n, lo + place = n := ⟨_, rfl⟩
        have hres2 := Lib.hid (hres.out n hn)
        have hnb : 0 ≤ n ∧ n ≤ 62 := by omega
        have xn : IntKind.i64.wrap (lo + place) = n := by rw [IntWalk.i64_in _ (by omega)]; exact hn
        have t1 : n.tmod 7 = n % 7 := Int.tmod_eq_emod_of_nonneg (by omega)
        have t2 : n.tdiv 7 = n / 7 := Int.tdiv_eq_ediv_of_nonneg (by omega)
        have x4 : IntKind.i64.wrap (n / 7) = n / 7 := IntWalk.i64_in _ (by omega)
        have x5 : IntKind.i64.wrap (n % 7) = n % 7 := IntWalk.i64_in _ (by omega)
        clear hk hc hkb he hres hlb ho1 ho2 hn hnb
        obtain ⟨s, l⟩ := c
        have ca : acc = 0 ∨ acc = 2 ∨ acc = -1 ∨ acc = 1 := by omega
        clear ha
        go_enter Tryd.func11, Tryd.ntmps11
        go_wp2_with fail
        refine (C.out _).mono ?_
        rintro e w1 ⟨rfl, hb⟩
        replace hB := Lib.hid (w_below hB.out hb)
        replace K := Lib.hid (K.out.later hb)
        replace r0 := Lib.hid (r0.out.later hb)
        clear hb C
        go_wp2_with fail
        obtain ⟨_, c0, c1, _, _⟩ := K.out
        simp only at c0 c1
        refine (O.out _).mono ?_
        rintro e w2 ⟨rfl, rfl⟩
        clear O
        go_wp2_with fail
        refine (LO.out _).mono ?_
        rintro e w2 ⟨rfl, hb⟩
        replace hB := Lib.hid (w_below hB.out hb)
        replace r0 := Lib.hid (r0.out.later hb)
        clear hb LO c0 c1 K
        rcases ca with rfl | rfl | rfl | rfl
        · have F1 := Lib.hid (fun W => FL.out (n % 7) W)
          have hr := Lib.hid (show R = (n % 7, n / 7, flatI k (n % 7)) from hres2.out)
          clear FL hres2
          generalize flatI k (n % 7) = fl at *
          have r1 := Lib.hid (r0.out.al (pO (n % 7, n / 7, fl)))
          obtain ⟨d0, d1, d2⟩ := pit_put r1.out (.int .i64 (n % 7)) (.int .i64 (n / 7)) (.int .i64 (fl))
          have e0 := r1.out.cell (j := 0) rfl
          have e1 := r1.out.cell (j := 1) rfl
          have e2 := r1.out.cell (j := 2) rfl
          have ef := r1.out.frozen
          go_wp2_with fail
          refine (F1.out _).mono ?_
          rintro e w3 ⟨rfl, rfl⟩
          clear F1
          go_wp2_with fail
          refine bodyPost_ret (v := mpv (n % 7, n / 7, fl) 0) (by simp [results, Tryd.results11, go_sem, d0, d1, d2]) rfl ⟨by rw [hr.out], ?_⟩
          exact w_put (w_put (w_put (w_alloc hB.out _) (by omega) _ _) (by omega) _ _) (by omega) _ _
        · have hr := Lib.hid (show R = (n % 7, n / 7, 0) from hres2.out)
          clear FL hres2
          have r1 := Lib.hid (r0.out.al (pO (n % 7, n / 7, 0)))
          obtain ⟨d0, d1, d2⟩ := pit_put r1.out (.int .i64 (n % 7)) (.int .i64 (n / 7)) (.int .i64 (0))
          have e0 := r1.out.cell (j := 0) rfl
          have e1 := r1.out.cell (j := 1) rfl
          have e2 := r1.out.cell (j := 2) rfl
          have ef := r1.out.frozen
          go_wp2_with fail
          refine bodyPost_ret (v := mpv (n % 7, n / 7, 0) 0) (by simp [results, Tryd.results11, go_sem, d0, d1, d2]) rfl ⟨by rw [hr.out], ?_⟩
          exact w_put (w_put (w_put (w_alloc hB.out _) (by omega) _ _) (by omega) _ _) (by omega) _ _
        · have hr := Lib.hid (show R = (n % 7, n / 7, -1) from hres2.out)
          clear FL hres2
          have r1 := Lib.hid (r0.out.al (pO (n % 7, n / 7, -1)))
          obtain ⟨d0, d1, d2⟩ := pit_put r1.out (.int .i64 (n % 7)) (.int .i64 (n / 7)) (.int .i64 (-1))
          have e0 := r1.out.cell (j := 0) rfl
          have e1 := r1.out.cell (j := 1) rfl
          have e2 := r1.out.cell (j := 2) rfl
          have ef := r1.out.frozen
          go_wp2_with fail
          refine bodyPost_ret (v := mpv (n % 7, n / 7, -1) 0) (by simp [results, Tryd.results11, go_sem, d0, d1, d2]) rfl ⟨by rw [hr.out], ?_⟩
          exact w_put (w_put (w_put (w_alloc hB.out _) (by omega) _ _) (by omega) _ _) (by omega) _ _
        · have hr := Lib.hid (show R = (n % 7, n / 7, 1) from hres2.out)
          clear FL hres2
          have r1 := Lib.hid (r0.out.al (pO (n % 7, n / 7, 1)))
          obtain ⟨d0, d1, d2⟩ := pit_put r1.out (.int .i64 (n % 7)) (.int .i64 (n / 7)) (.int .i64 (1))
          have e0 := r1.out.cell (j := 0) rfl
          have e1 := r1.out.cell (j := 1) rfl
          have e2 := r1.out.cell (j := 2) rfl
          have ef := r1.out.frozen
          go_wp2_with fail
          refine bodyPost_ret (v := mpv (n % 7, n / 7, 1) 0) (by simp [results, Tryd.results11, go_sem, d0, d1, d2]) rfl ⟨by rw [hr.out], ?_⟩
          exact w_put (w_put (w_put (w_alloc hB.out _) (by omega) _ _) (by omega) _ _) (by omega) _ _
      · have he := pitE_acc hk ho ha
        rw [pitR_no (show ¬ pitE c k place acc = 0 by rw [he]; decide), he]
        clear hk ho he K
        by_cases h1 : acc < -1
        · clear ha
          obtain ⟨s, l⟩ := c
          go_enter Tryd.func11, Tryd.ntmps11
          go_wp2_with fail
          refine (C.out _).mono ?_
          rintro e w1 ⟨rfl, hb⟩
          replace hB := Lib.hid (w_below hB.out hb)
          replace r0 := Lib.hid (r0.out.later hb)
          clear hb C
          obtain ⟨d0, d1, d2⟩ := pit_put r0.out (.int .i64 0) (.int .i64 0) (.int .i64 0)
          have e0 := r0.out.cell (j := 0) rfl
          have e1 := r0.out.cell (j := 1) rfl
          have e2 := r0.out.cell (j := 2) rfl
          have ef := r0.out.frozen
          go_wp2_with fail
          refine (O.out _).mono ?_
          rintro e w2 ⟨rfl, rfl⟩
          clear O
          go_wp2_with fail
          refine bodyPost_ret (v := mpv (0, 0, 0) 8) (by simp [results, Tryd.results11, go_sem, d0, d1, d2]) rfl ⟨rfl, ?_⟩
          exact w_put (w_put (w_put hB.out (by omega) _ _) (by omega) _ _) (by omega) _ _
        · have h2 : 2 < acc := by omega
          clear ha
          obtain ⟨s, l⟩ := c
          go_enter Tryd.func11, Tryd.ntmps11
          go_wp2_with fail
          refine (C.out _).mono ?_
          rintro e w1 ⟨rfl, hb⟩
          replace hB := Lib.hid (w_below hB.out hb)
          replace r0 := Lib.hid (r0.out.later hb)
          clear hb C
          obtain ⟨d0, d1, d2⟩ := pit_put r0.out (.int .i64 0) (.int .i64 0) (.int .i64 0)
          have e0 := r0.out.cell (j := 0) rfl
          have e1 := r0.out.cell (j := 1) rfl
          have e2 := r0.out.cell (j := 2) rfl
          have ef := r0.out.frozen
          go_wp2_with fail
          refine (O.out _).mono ?_
          rintro e w2 ⟨rfl, rfl⟩
          clear O
          go_wp2_with fail
          refine bodyPost_ret (v := mpv (0, 0, 0) 8) (by simp [results, Tryd.results11, go_sem, d0, d1, d2]) rfl ⟨rfl, ?_⟩
          exact w_put (w_put (w_put hB.out (by omega) _ _) (by omega) _ _) (by omega) _ _
    · rw [decide_eq_false ho] at O
      have he := pitE_on (acc := acc) hk ho
      rw [pitR_no (show ¬ pitE c k place acc = 0 by rw [he]; decide), he]
      clear hk ho he K
      obtain ⟨s, l⟩ := c
      go_enter Tryd.func11, Tryd.ntmps11
      go_wp2_with fail
      refine (C.out _).mono ?_
      rintro e w1 ⟨rfl, hb⟩
      replace hB := Lib.hid (w_below hB.out hb)
      replace r0 := Lib.hid (r0.out.later hb)
      clear hb C
      obtain ⟨d0, d1, d2⟩ := pit_put r0.out (.int .i64 0) (.int .i64 0) (.int .i64 0)
      have e0 := r0.out.cell (j := 0) rfl
      have e1 := r0.out.cell (j := 1) rfl
      have e2 := r0.out.cell (j := 2) rfl
      have ef := r0.out.frozen
      go_wp2_with fail
      refine (O.out _).mono ?_
      rintro e w2 ⟨rfl, rfl⟩
      clear O
      go_wp2_with fail
      refine bodyPost_ret (v := mpv (0, 0, 0) 2) (by simp [results, Tryd.results11, go_sem, d0, d1, d2]) rfl ⟨rfl, ?_⟩
      exact w_put (w_put (w_put hB.out (by omega) _ _) (by omega) _ _) (by omega) _ _
  · have he := pitE_key (place := place) (acc := acc) hk
    rw [pitR_no (show ¬ pitE c k place acc = 0 by rw [he]; exact hk), he]
    have hne : (keyE c k != 0) = true := by simp [hk]
    have hne2 : (keyE c k == 0) = false := by simp [hk]
    clear hk he O K
    generalize keyE c k = E at *
    obtain ⟨s, l⟩ := c
    go_enter Tryd.func11, Tryd.ntmps11
    go_wp2_with fail
    refine (C.out _).mono ?_
    rintro e w1 ⟨rfl, hb⟩
    replace hB := Lib.hid (w_below hB.out hb)
    replace r0 := Lib.hid (r0.out.later hb)
    clear hb C
    obtain ⟨d0, d1, d2⟩ := pit_put r0.out (.int .i64 0) (.int .i64 0) (.int .i64 0)
    have e0 := r0.out.cell (j := 0) rfl
    have e1 := r0.out.cell (j := 1) rfl
    have e2 := r0.out.cell (j := 2) rfl
    have ef := r0.out.frozen
    go_wp2_with fail
    refine bodyPost_ret (v := mpv (0, 0, 0) E) (by simp [results, Tryd.results11, go_sem, d0, d1, d2]) rfl ⟨rfl, ?_⟩
    exact w_put (w_put (w_put hB.out (by omega) _ _) (by omega) _ _) (by omega) _ _

end Go.Proofs.YteomimeagloofaaDoor
