/- The program's functions of package pitch: Check, Number, Of. -/
import Derived.Test.YteomimeagloofaaDoorPSpec
import Derived.BigRegion
namespace Go.Proofs.YteomimeagloofaaDoor
open Go.RowKit

def OfPost (r : Pi3 × Int) (w : World) (e : Ending) (w' : World) : Prop := e = .returned (.tuple #[pv r.1, .int .i64 r.2]) ∧ Below w.heap.size w w'

set_option maxHeartbeats 1000000 in
theorem wcheck_any (p : Pi3) (w : World) : Calls Tryd.prog 43 #[pv p] w fun e w' => e = .returned (.int .i64 (chkV p)) ∧ Below w.heap.size w w' := by
  have hc : (chkV p = 2 ∧ ¬ okP p) ∨ (chkV p = 0 ∧ okP p) := by
    by_cases h : okP p
    · exact .inr ⟨if_pos h, h⟩
    · exact .inl ⟨if_neg h, h⟩
  obtain ⟨s, o, a⟩ := p
  rcases hc with ⟨e, h⟩ | ⟨e, h⟩
  · rw [e]
    unfold okP at h
    simp only at h
    clear e
    have ways : s < 0 ∨ (0 ≤ s ∧ 7 ≤ s) ∨ (0 ≤ s ∧ s < 7 ∧ o < 0) ∨ (0 ≤ s ∧ s < 7 ∧ 0 ≤ o ∧ 9 ≤ o) ∨ (0 ≤ s ∧ s < 7 ∧ 0 ≤ o ∧ o < 9 ∧ a < -1) ∨ (0 ≤ s ∧ s < 7 ∧ 0 ≤ o ∧ o < 9 ∧ -1 ≤ a ∧ 1 < a) := by omega
    clear h
    rcases ways with h | ⟨h1, h2⟩ | ⟨h1, h2, h3⟩ | ⟨h1, h2, h3, h4⟩ | ⟨h1, h2, h3, h4, h5⟩ | ⟨h1, h2, h3, h4, h5, h6⟩
    all_goals
      go_enter Tryd.func43, Tryd.ntmps43
      go_wp2_with fail
      go_ret
      exact ⟨rfl, w_alloc (w_refl w) _⟩
  · rw [e]
    obtain ⟨⟨h1, h2⟩, ⟨h3, h4⟩, h5, h6⟩ := h
    simp only at h1 h2 h3 h4 h5 h6
    have h2' : s < 7 := by omega
    have h4' : o < 9 := by omega
    clear e h2 h4
    go_enter Tryd.func43, Tryd.ntmps43
    go_wp2_with fail
    go_ret
    exact ⟨rfl, w_alloc (w_refl w) _⟩

set_option maxHeartbeats 1000000 in
theorem wnum_any (p : Pi3) (h : okP p) (w : World) : Calls Tryd.prog 48 #[pv p] w fun e w' => e = .returned (.int .i64 (numI p)) ∧ Below w.heap.size w w' := by
  obtain ⟨s, o, a⟩ := p
  obtain ⟨⟨h1, h2⟩, ⟨h3, h4⟩, h5, h6⟩ := h
  simp only at h1 h2 h3 h4 h5 h6
  show Calls _ _ _ _ fun e w' => e = .returned (.int .i64 (7 * o + s)) ∧ _
  have x1 : IntKind.i64.wrap (7 * o) = 7 * o := IntWalk.i64_in _ (by omega)
  have x2 : IntKind.i64.wrap (7 * o + s) = 7 * o + s := IntWalk.i64_in _ (by omega)
  go_enter Tryd.func48, Tryd.ntmps48
  go_wp2_with fail
  go_ret
  exact ⟨rfl, w_alloc (w_refl w) _⟩

set_option maxHeartbeats 1000000 in
theorem wnumber_any (p : Pi3) (w : World) : Calls Tryd.prog 39 #[pv p] w fun e w' => e = .returned (.tuple #[.int .i64 (numV p).1, .int .i64 (numV p).2]) ∧ Below w.heap.size w w' := by
  have C := Lib.hid (fun W => wcheck_any p W)
  by_cases h : okP p
  · rw [numV_ok h]
    rw [chkV_ok h] at C
    have D := Lib.hid (fun W => wnum_any p h W)
    clear h
    generalize numI p = m at *
    have K := Lib.hid (Cell3.made w p 25)
    go_enter Tryd.func39, Tryd.ntmps39
    go_wp2_with fail
    refine (C.out _).mono ?_
    rintro e w1 ⟨rfl, hb⟩
    have hB := Lib.hid (w_below (w_alloc (w_refl w) _) hb)
    obtain ⟨_, c0, c1, c2, _, _, _⟩ := K.out.later hb
    clear hb K C
    go_wp2_with fail
    refine (D.out _).mono ?_
    rintro e w2 ⟨rfl, hb⟩
    have hB2 := Lib.hid (w_below hB.out hb)
    clear hb D hB c0 c1 c2
    go_wp2_with fail
    go_ret2
    exact ⟨rfl, hB2.out⟩
  · rw [numV_no h]
    rw [chkV_no h] at C
    clear h
    go_enter Tryd.func39, Tryd.ntmps39
    go_wp2_with fail
    refine (C.out _).mono ?_
    rintro e w1 ⟨rfl, hb⟩
    have hB := Lib.hid (w_below (w_alloc (w_refl w) _) hb)
    clear hb C
    go_wp2_with fail
    go_ret2
    exact ⟨rfl, hB.out⟩

theorem neg_parts {n : Int} (h : n < 0) : n.tmod 7 = -((-n) % 7) ∧ n.tdiv 7 = -((-n) / 7) := by
  have e : n = -(-n) := by omega
  constructor
  · conv => lhs; rw [e]
    rw [Int.neg_tmod, Int.tmod_eq_emod_of_nonneg (by omega)]
  · conv => lhs; rw [e]
    rw [Int.neg_tdiv, Int.tdiv_eq_ediv_of_nonneg (by omega)]
theorem of_parts (n k : Int) : okP (n.tmod 7, n.tdiv 7, k) ↔ (0 ≤ n ∧ n ≤ 62) ∧ (-1 ≤ k ∧ k ≤ 1) := by
  unfold okP
  simp only
  by_cases h : 0 ≤ n
  · rw [Int.tmod_eq_emod_of_nonneg h, Int.tdiv_eq_ediv_of_nonneg h]; omega
  · rw [(neg_parts (by omega)).1, (neg_parts (by omega)).2]; omega
theorem part_bd {n : Int} (h1 : -9223372036854775808 ≤ n) (h2 : n ≤ 9223372036854775807) : (-9223372036854775808 ≤ n.tmod 7 ∧ n.tmod 7 ≤ 9223372036854775807) ∧ (-9223372036854775808 ≤ n.tdiv 7 ∧ n.tdiv 7 ≤ 9223372036854775807) := by
  by_cases h : 0 ≤ n
  · rw [Int.tmod_eq_emod_of_nonneg h, Int.tdiv_eq_ediv_of_nonneg h]; omega
  · rw [(neg_parts (by omega)).1, (neg_parts (by omega)).2]; omega

/-- Two pitches in boxes of their own. -/
theorem boxes2 (w : World) (p q : Pi3) (t : TypeId) :
    Cell3 ((w.alloc (.cells #[.int .i64 p.1, .int .i64 p.2.1, .int .i64 p.2.2] t)).alloc (.cells #[.int .i64 q.1, .int .i64 q.2.1, .int .i64 q.2.2] t)) w.heap.size p ∧
    Cell3 ((w.alloc (.cells #[.int .i64 p.1, .int .i64 p.2.1, .int .i64 p.2.2] t)).alloc (.cells #[.int .i64 q.1, .int .i64 q.2.1, .int .i64 q.2.2] t)) (w.heap.size + 1) q := by
  refine ⟨(Cell3.made w p t).later (w_alloc (w_refl _) _), ?_⟩
  have := Cell3.made (w.alloc (.cells #[.int .i64 p.1, .int .i64 p.2.1, .int .i64 p.2.2] t)) q t
  rwa [World.size_alloc] at this

set_option maxHeartbeats 1000000 in
theorem wof_any (n k : Int) (w : World) (h1 : -9223372036854775808 ≤ n) (h2 : n ≤ 9223372036854775807) : Calls Tryd.prog 31 #[.int .i64 n, .int .i64 k] w (OfPost (ofV n k) w) := by
  have bd := part_bd h1 h2
  have hp := of_parts n k
  have C := Lib.hid (fun W => wcheck_any (n.tmod 7, n.tdiv 7, k) W)
  have x1 : IntKind.i64.wrap (n.tmod 7) = n.tmod 7 := IntWalk.i64_in _ (by omega)
  have x2 : IntKind.i64.wrap (n.tdiv 7) = n.tdiv 7 := IntWalk.i64_in _ (by omega)
  by_cases h : (0 ≤ n ∧ n ≤ 62) ∧ (-1 ≤ k ∧ k ≤ 1)
  · rw [chkV_ok (hp.2 h)] at C
    rw [of_ok h]
    rw [← Int.tmod_eq_emod_of_nonneg h.1.1, ← Int.tdiv_eq_ediv_of_nonneg h.1.1]
    clear hp h bd h1 h2
    obtain ⟨s, hs⟩ : ∃ s, n.tmod 7 = s := ⟨_, rfl⟩
    obtain ⟨o, ho⟩ : ∃ o, n.tdiv 7 = o := ⟨_, rfl⟩
    rw [hs] at x1 C ⊢
    rw [ho] at x2 C ⊢
    have K := Lib.hid (boxes2 w (0, 0, 0) (s, o, k) 25)
    go_enter Tryd.func31, Tryd.ntmps31
    go_wp2_with fail
    refine (C.out _).mono ?_
    rintro e w1 ⟨rfl, hb⟩
    have hB := Lib.hid (w_below (w_alloc (w_alloc (w_refl w) _) _) hb)
    obtain ⟨hin, d0, d1, d2, f0, f1, f2⟩ := K.out.1.later hb
    obtain ⟨_, c0, c1, c2, _, _, _⟩ := K.out.2.later hb
    simp only at d0 d1 d2 f0 f1 f2 c0 c1 c2
    clear hb K C
    go_wp2_with fail
    refine bodyPost_ret (v := .tuple #[pv (s, o, k), .int .i64 0]) (by simp [results, Tryd.results31, go_sem, d0, d1, d2]) rfl ⟨rfl, ?_⟩
    exact w_set (w_set (w_set hB.out (by simp) _) (by simp) _) (by simp) _
  · rw [chkV_no (fun x => h (hp.1 x))] at C
    rw [of_no h]
    clear hp h bd h1 h2
    obtain ⟨s, hs⟩ : ∃ s, n.tmod 7 = s := ⟨_, rfl⟩
    obtain ⟨o, ho⟩ : ∃ o, n.tdiv 7 = o := ⟨_, rfl⟩
    rw [hs] at x1 C
    rw [ho] at x2 C
    have K := Lib.hid (boxes2 w (0, 0, 0) (s, o, k) 25)
    go_enter Tryd.func31, Tryd.ntmps31
    go_wp2_with fail
    refine (C.out _).mono ?_
    rintro e w1 ⟨rfl, hb⟩
    have hB := Lib.hid (w_below (w_alloc (w_alloc (w_refl w) _) _) hb)
    obtain ⟨hin, d0, d1, d2, f0, f1, f2⟩ := K.out.1.later hb
    obtain ⟨_, c0, c1, c2, _, _, _⟩ := K.out.2.later hb
    simp only at d0 d1 d2 f0 f1 f2 c0 c1 c2
    clear hb K C
    go_wp2_with fail
    refine bodyPost_ret (v := .tuple #[pv (0, 0, 0), .int .i64 2]) (by simp [results, Tryd.results31, go_sem, d0, d1, d2]) rfl ⟨rfl, ?_⟩
    exact w_set (w_set (w_set hB.out (by simp) _) (by simp) _) (by simp) _

end Go.Proofs.YteomimeagloofaaDoor
