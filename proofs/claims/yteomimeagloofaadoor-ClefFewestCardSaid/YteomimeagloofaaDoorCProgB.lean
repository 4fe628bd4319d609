/- The program's checks of clefs and keys, the lowest place, accidentals. -/
import Derived.Test.YteomimeagloofaaDoorCProgA
namespace Go.Proofs.YteomimeagloofaaDoor
open Go.RowKit

set_option maxHeartbeats 2000000 in
theorem cchk_any (c : Cl) (w : World) (T : TabC w) : Calls Tryd.prog 12 #[cv c] w fun e w' => e = .returned (.int .i64 (chkC c)) ∧ Below w.heap.size w w' := by
  have C := Lib.hid (show ∀ W, Below w.heap.size w W → Calls Tryd.prog 37 #[.int .i64 c.1] W fun e w' => e = .returned (.tuple #[pv (clefP c.1), .bool (decide (stepOk c.1))]) ∧ Below W.heap.size W w' from fun W b => clefp_any c.1 W (T.later b))
  have K := Lib.hid (Two2.made w c 23)
  have hB := Lib.hid (w_alloc (w_refl w) (cO c))
  clear T
  by_cases hs : stepOk c.1
  · rw [decide_eq_true hs] at C
    by_cases hl : 1 ≤ c.2 ∧ c.2 ≤ 5
    · rw [chkC_ok ⟨hs, hl⟩]
      obtain ⟨h1, h2⟩ := hl
      clear hs
      generalize clefP c.1 = p at *
      obtain ⟨p1, p2, p3⟩ := p
      obtain ⟨s, l⟩ := c
      simp only at h1 h2
      go_enter Tryd.func12, Tryd.ntmps12
      go_wp2_with fail
      refine (C.out _ hB.out).mono ?_
      rintro e w1 ⟨rfl, hb⟩
      have hb9 := w_alloc hb (pO (p1, p2, p3))
      replace hB := Lib.hid (w_below hB.out hb9)
      obtain ⟨_, k0, k1, _, _⟩ := K.out.later hb9
      simp only at k0 k1
      clear hb hb9 C K
      go_wp2_with fail
      go_ret
      exact ⟨rfl, hB.out⟩
    · rw [chkC_line hs hl]
      clear hs
      generalize clefP c.1 = p at *
      obtain ⟨p1, p2, p3⟩ := p
      obtain ⟨s, l⟩ := c
      simp only at hl
      by_cases h1 : l < 1
      · clear hl
        go_enter Tryd.func12, Tryd.ntmps12
        go_wp2_with fail
        refine (C.out _ hB.out).mono ?_
        rintro e w1 ⟨rfl, hb⟩
        have hb9 := w_alloc hb (pO (p1, p2, p3))
        replace hB := Lib.hid (w_below hB.out hb9)
        obtain ⟨_, k0, k1, _, _⟩ := K.out.later hb9
        simp only at k0 k1
        clear hb hb9 C K
        go_wp2_with fail
        go_ret
        exact ⟨rfl, hB.out⟩
      · have h2 : 5 < l := by omega
        clear hl
        go_enter Tryd.func12, Tryd.ntmps12
        go_wp2_with fail
        refine (C.out _ hB.out).mono ?_
        rintro e w1 ⟨rfl, hb⟩
        have hb9 := w_alloc hb (pO (p1, p2, p3))
        replace hB := Lib.hid (w_below hB.out hb9)
        obtain ⟨_, k0, k1, _, _⟩ := K.out.later hb9
        simp only at k0 k1
        clear hb hb9 C K
        go_wp2_with fail
        go_ret
        exact ⟨rfl, hB.out⟩
  · rw [chkC_step hs]
    rw [decide_eq_false hs] at C
    clear hs
    generalize clefP c.1 = p at *
    obtain ⟨p1, p2, p3⟩ := p
    obtain ⟨s, l⟩ := c
    go_enter Tryd.func12, Tryd.ntmps12
    go_wp2_with fail
    refine (C.out _ hB.out).mono ?_
    rintro e w1 ⟨rfl, hb⟩
    have hb9 := w_alloc hb (pO (p1, p2, p3))
    replace hB := Lib.hid (w_below hB.out hb9)
    clear hb hb9 C K
    go_wp2_with fail
    go_ret
    exact ⟨rfl, hB.out⟩

/-- The error of a key. -/
def keyK (k : Int) : Int := if 0 ≤ k ∧ k ≤ 2 then 0 else 2
theorem ckey_any (k : Int) (w : World) : Calls Tryd.prog 42 #[.int .i64 k] w fun e w' => e = .returned (.int .i64 (keyK k)) ∧ w = w' := by
  by_cases h : 0 ≤ k ∧ k ≤ 2
  · rw [show keyK k = 0 from if_pos h]
    obtain ⟨h1, h2⟩ := h
    have h3 : k < 3 := by omega
    go_enter Tryd.func42, Tryd.ntmps42
    go_wp2_with fail
    go_ret
    exact ⟨rfl, rfl⟩
  · rw [show keyK k = 2 from if_neg h]
    by_cases h1 : k < 0
    · clear h
      go_enter Tryd.func42, Tryd.ntmps42
      go_wp2_with fail
      go_ret
      exact ⟨rfl, rfl⟩
    · have h2 : 3 ≤ k := by omega
      clear h
      go_enter Tryd.func42, Tryd.ntmps42
      go_wp2_with fail
      go_ret
      exact ⟨rfl, rfl⟩

set_option maxHeartbeats 2000000 in
theorem cboth_any (c : Cl) (k : Int) (w : World) (T : TabC w) : Calls Tryd.prog 29 #[cv c, .int .i64 k] w fun e w' => e = .returned (.int .i64 (keyE c k)) ∧ Below w.heap.size w w' := by
  have C := Lib.hid (fun W (b : Below w.heap.size w W) => cchk_any c W (T.later b))
  have D := Lib.hid (fun W => ckey_any k W)
  have hB := Lib.hid (w_alloc (w_refl w) (cO c))
  clear T
  by_cases h : chkC c = 0
  · rw [show keyE c k = keyK k by unfold keyE keyK; rw [if_pos h]]
    rw [h] at C
    clear h
    generalize keyK k = e0 at *
    obtain ⟨s, l⟩ := c
    go_enter Tryd.func29, Tryd.ntmps29
    go_wp2_with fail
    refine (C.out _ hB.out).mono ?_
    rintro e w1 ⟨rfl, hb⟩
    replace hB := Lib.hid (w_below hB.out hb)
    clear hb C
    go_wp2_with fail
    refine (D.out _).mono ?_
    rintro e w2 ⟨rfl, rfl⟩
    go_wp2_with fail
    go_ret
    exact ⟨rfl, hB.out⟩
  · rw [keyE_no h]
    have e1 : (chkC c == 0) = false := by simp [h]
    have e2 : (chkC c != 0) = true := by simp [h]
    clear h
    generalize chkC c = E at *
    obtain ⟨s, l⟩ := c
    go_enter Tryd.func29, Tryd.ntmps29
    go_wp2_with fail
    refine (C.out _ hB.out).mono ?_
    rintro e w1 ⟨rfl, hb⟩
    replace hB := Lib.hid (w_below hB.out hb)
    clear hb C
    go_wp2_with fail
    go_ret
    exact ⟨rfl, hB.out⟩

theorem cisp_any (x : Int) (w : World) : Calls Tryd.prog 30 #[.int .i64 x] w fun e w' => e = .returned (.bool (decide (onP x))) ∧ w = w' := by
  by_cases h : onP x
  · rw [decide_eq_true h]
    obtain ⟨h1, h2⟩ := h
    go_enter Tryd.func30, Tryd.ntmps30
    go_wp2_with fail
    go_ret
    exact ⟨rfl, rfl⟩
  · rw [decide_eq_false h]
    unfold onP at h
    by_cases h1 : x < -4
    · clear h
      have h2 : ¬ (-4 ≤ x) := by omega
      go_enter Tryd.func30, Tryd.ntmps30
      go_wp2_with fail
      go_ret
      exact ⟨rfl, rfl⟩
    · have h2 : -4 ≤ x := by omega
      have h3 : ¬ (x ≤ 12) := by omega
      clear h
      go_enter Tryd.func30, Tryd.ntmps30
      go_wp2_with fail
      go_ret
      exact ⟨rfl, rfl⟩

set_option maxHeartbeats 2000000 in
theorem clow_any (c : Cl) (h : okC c) (w : World) (T : TabC w) : Calls Tryd.prog 32 #[cv c] w fun e w' => e = .returned (.int .i64 (lowC c)) ∧ Below w.heap.size w w' := by
  have C := Lib.hid (show ∀ W, Below w.heap.size w W → Calls Tryd.prog 37 #[.int .i64 c.1] W fun e w' => e = .returned (.tuple #[pv (clefP c.1), .bool (decide (stepOk c.1))]) ∧ Below W.heap.size W w' from fun W b => clefp_any c.1 W (T.later b))
  have K := Lib.hid (Two2.made w c 23)
  have hB := Lib.hid (w_alloc (w_refl w) (cO c))
  obtain ⟨ho, hn⟩ := clefP_ok h.1
  have N := Lib.hid (fun W => wnumber_any (clefP c.1) W)
  rw [numV_ok ho] at N
  have hlow : numI (clefP c.1) - 2 * (c.2 - 1) = lowC c := by rw [hn]; rfl
  have hnb := num_bd ho
  have hlb := low_bd h
  obtain ⟨h0, h1, h2⟩ := h
  rw [decide_eq_true h0] at C
  clear T h0 hn ho
  generalize lowC c = L at *
  generalize clefP c.1 = p at *
  generalize numI p = m at *
  obtain ⟨p1, p2, p3⟩ := p
  obtain ⟨s, l⟩ := c
  simp only at h1 h2 hlow
  have x1 : IntKind.i64.wrap (l - 1) = l - 1 := IntWalk.i64_in _ (by omega)
  have x2 : IntKind.i64.wrap (2 * (l - 1)) = 2 * (l - 1) := IntWalk.i64_in _ (by omega)
  have x3 : IntKind.i64.wrap (m - 2 * (l - 1)) = L := by rw [IntWalk.i64_in _ (by omega)]; exact hlow
  clear hlow hnb hlb
  go_enter Tryd.func32, Tryd.ntmps32
  go_wp2_with fail
  refine (C.out _ hB.out).mono ?_
  rintro e w1 ⟨rfl, hb⟩
  have hb9 := w_alloc hb (pO (p1, p2, p3))
  replace hB := Lib.hid (w_below hB.out hb9)
  replace K := Lib.hid (K.out.later hb9)
  obtain ⟨_, c0, c1, c2, _, _, _⟩ := Cell3.made w1 (p1, p2, p3) 25
  simp only at c0 c1 c2
  clear hb hb9 C
  go_wp2_with fail
  refine (N.out _).mono ?_
  rintro e w2 ⟨rfl, hb⟩
  replace hB := Lib.hid (w_below hB.out hb)
  obtain ⟨_, k0, k1, _, _⟩ := K.out.later hb
  simp only at k0 k1
  clear hb N K c0 c1 c2
  go_wp2_with fail
  go_ret
  exact ⟨rfl, hB.out⟩

set_option maxHeartbeats 2000000 in
theorem cacc_any (k : Int) (hk : 0 ≤ k ∧ k ≤ 2) (p : Pi3) (hp : okP p) (w : World) (T : TabC w) : Calls Tryd.prog 40 #[.int .i64 k, pv p] w fun e w' => e = .returned (.int .i64 (accI k p)) ∧ Below w.heap.size w w' := by
  have hp1 := hp.1
  have hp3 := hp.2.2
  have ht := (T.al (pO p)).key hp1 hk
  have hfb := flat_bd k p.1
  have hacc : (p.2.2 = flatI k p.1 ∧ accI k p = 0) ∨ (p.2.2 ≠ flatI k p.1 ∧ p.2.2 = 0 ∧ accI k p = 2) ∨ (p.2.2 ≠ flatI k p.1 ∧ p.2.2 ≠ 0 ∧ accI k p = p.2.2) := by
    unfold accI
    by_cases h1 : p.2.2 = flatI k p.1
    · exact .inl ⟨h1, if_pos h1⟩
    · by_cases h2 : p.2.2 = 0
      · exact .inr (.inl ⟨h1, h2, by rw [if_neg h1, if_pos h2]⟩)
      · exact .inr (.inr ⟨h1, h2, by rw [if_neg h1, if_neg h2]⟩)
  have hB := Lib.hid (w_alloc (w_refl w) (pO p))
  clear hp T
  generalize accI k p = A at *
  obtain ⟨s, o, a⟩ := p
  simp only at hp1 hp3 ht hfb hacc
  generalize flatI k s = f at *
  obtain ⟨s1, s2⟩ := hp1
  obtain ⟨k1, k2⟩ := hk
  have s3 : s < 7 := by omega
  have k3 : k < 3 := by omega
  rcases hacc with ⟨e1, rfl⟩ | ⟨e1, rfl, rfl⟩ | ⟨e1, e2, rfl⟩
  · subst e1
    clear hfb hp3
    go_enter Tryd.func40, Tryd.ntmps40
    go_wp2_with fail
    go_ret
    exact ⟨rfl, hB.out⟩
  · have e3 : ((0 : Int) == f) = false := by simp [e1]
    clear hfb hp3 e1
    go_enter Tryd.func40, Tryd.ntmps40
    go_wp2_with fail
    go_ret
    exact ⟨rfl, hB.out⟩
  · have e3 : (A == f) = false := by simp [e1]
    have e4 : (A == 0) = false := by simp [e2]
    clear hfb hp3 e1 e2
    go_enter Tryd.func40, Tryd.ntmps40
    go_wp2_with fail
    go_ret
    exact ⟨rfl, hB.out⟩

end Go.Proofs.YteomimeagloofaaDoor
