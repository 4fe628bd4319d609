/- The program's functions on numbers and heights of pitches. -/
import Derived.Test.YtpkihehacocbhaaDoorPTab
import Derived.BigRegion
namespace Go.Proofs.YtpkihehacocbhaaDoor
open Go.RowKit

set_option maxHeartbeats 1000000 in
theorem wcheck_any (p : Pi3) (w : World) : Calls Tryd.prog 22 #[pv p] w fun e w' => e = .returned (.int .i64 (chkV p)) ∧ Below w.heap.size w w' := by
  have hc : (chkV p = 2 ∧ ¬ okP p) ∨ (chkV p = 0 ∧ okP p) := by
    by_cases h : okP p
    · exact .inr ⟨if_pos h, h⟩
    · exact .inl ⟨if_neg h, h⟩
  obtain ⟨s, o, a⟩ := p
  rcases hc with ⟨e, h⟩ | ⟨e, h⟩
  · rw [e]
    unfold okP at h
    simp only at h
    clear e
    have ways : s < 0 ∨ (0 ≤ s ∧ 7 ≤ s) ∨ (0 ≤ s ∧ s < 7 ∧ o < 0) ∨ (0 ≤ s ∧ s < 7 ∧ 0 ≤ o ∧ 9 ≤ o) ∨ (0 ≤ s ∧ s < 7 ∧ 0 ≤ o ∧ o < 9 ∧ a < -1) ∨ (0 ≤ s ∧ s < 7 ∧ 0 ≤ o ∧ o < 9 ∧ -1 ≤ a ∧ 1 < a) := by omega
    clear h
    rcases ways with h | ⟨h1, h2⟩ | ⟨h1, h2, h3⟩ | ⟨h1, h2, h3, h4⟩ | ⟨h1, h2, h3, h4, h5⟩ | ⟨h1, h2, h3, h4, h5, h6⟩
    all_goals
      go_enter Tryd.func22, Tryd.ntmps22
      go_wp2_with fail
      go_ret
      exact ⟨rfl, w_alloc (w_refl w) _⟩
  · rw [e]
    obtain ⟨⟨h1, h2⟩, ⟨h3, h4⟩, h5, h6⟩ := h
    simp only at h1 h2 h3 h4 h5 h6
    have h2' : s < 7 := by omega
    have h4' : o < 9 := by omega
    clear e h2 h4
    go_enter Tryd.func22, Tryd.ntmps22
    go_wp2_with fail
    go_ret
    exact ⟨rfl, w_alloc (w_refl w) _⟩

set_option maxHeartbeats 1000000 in
theorem wnum_any (p : Pi3) (h : okP p) (w : World) : Calls Tryd.prog 33 #[pv p] w fun e w' => e = .returned (.int .i64 (numI p)) ∧ Below w.heap.size w w' := by
  obtain ⟨s, o, a⟩ := p
  obtain ⟨⟨h1, h2⟩, ⟨h3, h4⟩, h5, h6⟩ := h
  simp only at h1 h2 h3 h4 h5 h6
  show Calls _ _ _ _ fun e w' => e = .returned (.int .i64 (7 * o + s)) ∧ _
  have x1 : IntKind.i64.wrap (7 * o) = 7 * o := IntWalk.i64_in _ (by omega)
  have x2 : IntKind.i64.wrap (7 * o + s) = 7 * o + s := IntWalk.i64_in _ (by omega)
  go_enter Tryd.func33, Tryd.ntmps33
  go_wp2_with fail
  go_ret
  exact ⟨rfl, w_alloc (w_refl w) _⟩

set_option maxHeartbeats 1000000 in
theorem whei_any (p : Pi3) (h : okP p) (w : World) (T : Tab w) : Calls Tryd.prog 34 #[pv p] w fun e w' => e = .returned (.int .i64 (heiI p)) ∧ Below w.heap.size w w' := by
  obtain ⟨s, o, a⟩ := p
  obtain ⟨⟨h1, h2⟩, ⟨h3, h4⟩, h5, h6⟩ := h
  simp only at h1 h2 h3 h4 h5 h6
  show Calls _ _ _ _ fun e w' => e = .returned (.int .i64 (12 * o + semiI s + a)) ∧ _
  have k := semi_bd s
  have tc := (T.al (.cells #[.int .i64 s, .int .i64 o, .int .i64 a] 23)).semi h1 h2
  generalize semiI s = m at *
  have x1 : IntKind.i64.wrap (12 * o) = 12 * o := IntWalk.i64_in _ (by omega)
  have x2 : IntKind.i64.wrap (12 * o + m) = 12 * o + m := IntWalk.i64_in _ (by omega)
  have x3 : IntKind.i64.wrap (12 * o + m + a) = 12 * o + m + a := IntWalk.i64_in _ (by omega)
  have h2' : s < 7 := by omega
  clear T k
  go_enter Tryd.func34, Tryd.ntmps34
  go_wp2_with fail
  go_region
  all_goals
    go_wp2_with fail
    go_ret
    exact ⟨rfl, (w_alloc (w_refl w) _).drew⟩

/-- The error of the first, or else that of the second. -/
def bothV (p q : Pi3) : Int := if okP p then chkV q else 2

set_option maxHeartbeats 1000000 in
theorem wboth_any (p q : Pi3) (w : World) : Calls Tryd.prog 35 #[pv p, pv q] w fun e w' => e = .returned (.int .i64 (bothV p q)) ∧ Below w.heap.size w w' := by
  have C := Lib.hid (fun W => wcheck_any p W)
  have D := Lib.hid (fun W => wcheck_any q W)
  have K := Lib.hid (show Cell3 ((w.alloc (.cells #[.int .i64 p.1, .int .i64 p.2.1, .int .i64 p.2.2] 23)).alloc (.cells #[.int .i64 q.1, .int .i64 q.2.1, .int .i64 q.2.2] 23)) (w.heap.size + 1) q by
    have := Cell3.made (w.alloc (.cells #[.int .i64 p.1, .int .i64 p.2.1, .int .i64 p.2.2] 23)) q 23
    rwa [World.size_alloc] at this)
  unfold bothV
  by_cases h : okP p
  · rw [if_pos h]
    rw [chkV_ok h] at C
    clear h
    generalize chkV q = c at *
    go_enter Tryd.func35, Tryd.ntmps35
    go_wp2_with fail
    refine (C.out _).mono ?_
    rintro e w1 ⟨rfl, hb⟩
    have hB := Lib.hid (w_below (w_alloc (w_alloc (w_refl w) _) _) hb)
    obtain ⟨_, c0, c1, c2, _, _, _⟩ := K.out.later hb
    clear hb C K
    go_wp2_with fail
    refine (D.out _).mono ?_
    rintro e w2 ⟨rfl, hb⟩
    have hB2 := Lib.hid (w_below hB.out hb)
    clear hb D hB
    go_wp2_with fail
    go_ret
    exact ⟨rfl, hB2.out⟩
  · rw [if_neg h]
    rw [chkV_no h] at C
    clear h D K
    go_enter Tryd.func35, Tryd.ntmps35
    go_wp2_with fail
    refine (C.out _).mono ?_
    rintro e w1 ⟨rfl, hb⟩
    have hB := Lib.hid (w_below (w_alloc (w_alloc (w_refl w) _) _) hb)
    clear hb C
    go_wp2_with fail
    go_ret
    exact ⟨rfl, hB.out⟩

set_option maxHeartbeats 1000000 in
theorem wnumber_any (p : Pi3) (w : World) : Calls Tryd.prog 10 #[pv p] w fun e w' => e = .returned (.tuple #[.int .i64 (numV p).1, .int .i64 (numV p).2]) ∧ Below w.heap.size w w' := by
  have C := Lib.hid (fun W => wcheck_any p W)
  by_cases h : okP p
  · rw [numV_ok h]
    rw [chkV_ok h] at C
    have D := Lib.hid (fun W => wnum_any p h W)
    clear h
    generalize numI p = m at *
    have K := Lib.hid (Cell3.made w p 23)
    go_enter Tryd.func10, Tryd.ntmps10
    go_wp2_with fail
    refine (C.out _).mono ?_
    rintro e w1 ⟨rfl, hb⟩
    have hB := Lib.hid (w_below (w_alloc (w_refl w) _) hb)
    obtain ⟨_, c0, c1, c2, _, _, _⟩ := K.out.later hb
    clear hb K C
    go_wp2_with fail
    refine (D.out _).mono ?_
    rintro e w2 ⟨rfl, hb⟩
    have hB2 := Lib.hid (w_below hB.out hb)
    clear hb D hB c0 c1 c2
    go_wp2_with fail
    go_ret2
    exact ⟨rfl, hB2.out⟩
  · rw [numV_no h]
    rw [chkV_no h] at C
    clear h
    go_enter Tryd.func10, Tryd.ntmps10
    go_wp2_with fail
    refine (C.out _).mono ?_
    rintro e w1 ⟨rfl, hb⟩
    have hB := Lib.hid (w_below (w_alloc (w_refl w) _) hb)
    clear hb C
    go_wp2_with fail
    go_ret2
    exact ⟨rfl, hB.out⟩

set_option maxHeartbeats 1000000 in
theorem wheight_any (p : Pi3) (w : World) (T : Tab w) : Calls Tryd.prog 11 #[pv p] w fun e w' => e = .returned (.tuple #[.int .i64 (heiV p).1, .int .i64 (heiV p).2]) ∧ Below w.heap.size w w' := by
  have C := Lib.hid (fun W => wcheck_any p W)
  have TH := Lib.hid T
  clear T
  by_cases h : okP p
  · rw [heiV_ok h]
    rw [chkV_ok h] at C
    have D := Lib.hid (fun W => whei_any p h W)
    clear h
    generalize heiI p = m at *
    have K := Lib.hid (Cell3.made w p 23)
    go_enter Tryd.func11, Tryd.ntmps11
    go_wp2_with fail
    refine (C.out _).mono ?_
    rintro e w1 ⟨rfl, hb⟩
    have hB := Lib.hid (w_below (w_alloc (w_refl w) _) hb)
    obtain ⟨_, c0, c1, c2, _, _, _⟩ := K.out.later hb
    clear hb K C
    go_wp2_with fail
    refine (D.out _ (TH.out.later hB.out)).mono ?_
    rintro e w2 ⟨rfl, hb⟩
    have hB2 := Lib.hid (w_below hB.out hb)
    clear hb D hB c0 c1 c2
    go_wp2_with fail
    go_ret2
    exact ⟨rfl, hB2.out⟩
  · rw [heiV_no h]
    rw [chkV_no h] at C
    clear h
    go_enter Tryd.func11, Tryd.ntmps11
    go_wp2_with fail
    refine (C.out _).mono ?_
    rintro e w1 ⟨rfl, hb⟩
    have hB := Lib.hid (w_below (w_alloc (w_refl w) _) hb)
    clear hb C
    go_wp2_with fail
    go_ret2
    exact ⟨rfl, hB.out⟩

end Go.Proofs.YtpkihehacocbhaaDoor
