/- The reference's functions on pitches, for all arguments: pitches of numbers, moves, mirrors, intervals. -/
import Derived.Test.YtpkihehacocbhaaDoorPRefB
namespace Go.Proofs.YtpkihehacocbhaaDoor
open Go.RowKit

def OfPost (r : Pi3 × Int) (w : World) (e : Ending) (w' : World) : Prop := e = .returned (.tuple #[pv r.1, .int .i64 r.2]) ∧ Below w.heap.size w w'

set_option maxHeartbeats 1000000 in
theorem rof_any (n k : Int) (w : World) : Calls Tryd.prog 24 #[.int .i64 n, .int .i64 k] w (OfPost (ofV n k) w) := by
  by_cases h : (0 ≤ n ∧ n ≤ 62) ∧ (-1 ≤ k ∧ k ≤ 1)
  · rw [of_ok h]
    obtain ⟨⟨h1, h2⟩, h3, h4⟩ := h
    have t1 : n.tmod 7 = n % 7 := Int.tmod_eq_emod_of_nonneg h1
    have t2 : n.tdiv 7 = n / 7 := Int.tdiv_eq_ediv_of_nonneg h1
    have q1 : 0 ≤ n % 7 := by omega
    have q2 : n % 7 ≤ 6 := by omega
    have q3 : 0 ≤ n / 7 := by omega
    have q4 : n / 7 ≤ 8 := by omega
    go_enter Tryd.func24, Tryd.ntmps24
    go_wp2_with fail
    refine bodyPost_ret (v := .tuple #[pv (n % 7, n / 7, k), .int .i64 0]) (by simp [results, Tryd.results24, go_sem]) rfl ⟨rfl, ?_⟩
    exact w_alloc (w_refl w) _
  · rw [of_no h]
    have ways : n < 0 ∨ (0 ≤ n ∧ 62 < n) ∨ (0 ≤ n ∧ n ≤ 62 ∧ k < -1) ∨ (0 ≤ n ∧ n ≤ 62 ∧ -1 ≤ k ∧ 1 < k) := by omega
    clear h
    rcases ways with h | ⟨h1, h2⟩ | ⟨h1, h2, h3⟩ | ⟨h1, h2, h3, h4⟩
    all_goals
      go_enter Tryd.func24, Tryd.ntmps24
      go_wp2_with fail
      refine bodyPost_ret (v := .tuple #[pv (0, 0, 0), .int .i64 2]) (by simp [results, Tryd.results24, go_sem]) rfl ⟨rfl, ?_⟩
      exact w_alloc (w_refl w) _

theorem moveV_ok {p : Pi3} {n : Int} (h : okP p) : moveV p n = ofV (numI p + n) p.2.2 := if_pos h
theorem moveV_no {p : Pi3} {n : Int} (h : ¬ okP p) : moveV p n = ((0, 0, 0), 2) := if_neg h

set_option maxHeartbeats 2000000 in
theorem rmove_any (p : Pi3) (n : Int) (w : World) : Calls Tryd.prog 25 #[pv p, .int .i64 n] w (OfPost (moveV p n) w) := by
  have C := Lib.hid (fun W => rnumber_any p W)
  by_cases h : okP p
  · rw [moveV_ok h]
    rw [numV_ok h] at C
    obtain ⟨hb1, hb2⟩ := num_bd h
    generalize numI p = m at *
    obtain ⟨s, o, a⟩ := p
    obtain ⟨-, -, ha⟩ := h
    simp only at ha ⊢
    have cell := Lib.hid ((Cell3.made w (s, o, a) 23).later (w_alloc (w_refl _) (.cells #[.int .i64 0, .int .i64 0, .int .i64 0] 23)))
    have res := Lib.hid (Cell3.made (w.alloc (.cells #[.int .i64 s, .int .i64 o, .int .i64 a] 23)) (0, 0, 0) 23)
    have x1 : IntKind.i64.wrap (-m) = -m := IntWalk.i64_in _ (by omega)
    have x2 : IntKind.i64.wrap (62 - m) = 62 - m := IntWalk.i64_in _ (by omega)
    by_cases hr : 0 ≤ m + n ∧ m + n ≤ 62
    · obtain ⟨hr1, hr2⟩ := hr
      have x3 : IntKind.i64.wrap (m + n) = m + n := IntWalk.i64_in _ (by omega)
      have g1 : ¬ n < -m := by omega
      have g2 : ¬ 62 - m < n := by omega
      have O := Lib.hid (fun W => rof_any (m + n) a W)
      generalize ofV (m + n) a = r at *
      obtain ⟨⟨r1, r2, r3⟩, re⟩ := r
      go_enter Tryd.func25, Tryd.ntmps25
      go_wp2_with fail
      refine (C.out _).mono ?_
      rintro e w1 ⟨rfl, hb⟩
      have hB := Lib.hid (w_below (w_alloc (w_alloc (w_refl w) _) _) hb)
      have cell2 := Lib.hid (cell.out.later hb)
      have res2 := Lib.hid (res.out.later hb)
      obtain ⟨_, c0, c1, c2, _, _, _⟩ := cell2.out
      simp only at c0 c1 c2
      clear hb cell C res
      go_wp2_with fail
      refine (O.out _).mono ?_
      rintro e w2 ⟨rfl, hb⟩
      have hB2 := Lib.hid (w_below hB.out hb)
      obtain ⟨hin, d0, d1, d2, f0, f1, f2⟩ := res2.out.later hb
      simp only [World.size_alloc] at hin d0 d1 d2 f0 f1 f2
      clear hb O hB res2 cell2 c0 c1 c2
      go_wp2_with fail
      refine bodyPost_ret (v := .tuple #[pv (r1, r2, r3), .int .i64 re]) (by simp [results, Tryd.results25, go_sem, d0, d1, d2]) rfl ⟨rfl, ?_⟩
      exact w_set (w_set (w_set hB2.out (by simp) _) (by simp) _) (by simp) _
    · rw [of_no (fun x => hr x.1)]
      have ways : n < -m ∨ (¬ n < -m ∧ 62 - m < n) := by omega
      clear hr
      rcases ways with g1 | ⟨g1, g2⟩
      all_goals
        go_enter Tryd.func25, Tryd.ntmps25
        go_wp2_with fail
        refine (C.out _).mono ?_
        rintro e w1 ⟨rfl, hb⟩
        have hB := Lib.hid (w_below (w_alloc (w_alloc (w_refl w) _) _) hb)
        obtain ⟨hin, d0, d1, d2, f0, f1, f2⟩ := res.out.later hb
        simp only [World.size_alloc] at hin d0 d1 d2 f0 f1 f2
        clear hb cell C res
        go_wp2_with fail
        refine bodyPost_ret (v := .tuple #[pv (0, 0, 0), .int .i64 2]) (by simp [results, Tryd.results25, go_sem, d0, d1, d2]) rfl ⟨rfl, ?_⟩
        exact w_set (w_set (w_set hB.out (by simp) _) (by simp) _) (by simp) _
  · rw [moveV_no h]
    rw [numV_no h] at C
    clear h
    obtain ⟨s, o, a⟩ := p
    have res := Lib.hid (Cell3.made (w.alloc (.cells #[.int .i64 s, .int .i64 o, .int .i64 a] 23)) (0, 0, 0) 23)
    go_enter Tryd.func25, Tryd.ntmps25
    go_wp2_with fail
    refine (C.out _).mono ?_
    rintro e w1 ⟨rfl, hb⟩
    have hB := Lib.hid (w_below (w_alloc (w_alloc (w_refl w) _) _) hb)
    obtain ⟨hin, d0, d1, d2, f0, f1, f2⟩ := res.out.later hb
    simp only [World.size_alloc] at hin d0 d1 d2 f0 f1 f2
    clear hb C res
    go_wp2_with fail
    refine bodyPost_ret (v := .tuple #[pv (0, 0, 0), .int .i64 2]) (by simp [results, Tryd.results25, go_sem, d0, d1, d2]) rfl ⟨rfl, ?_⟩
    exact w_set (w_set (w_set hB.out (by simp) _) (by simp) _) (by simp) _

end Go.Proofs.YtpkihehacocbhaaDoor
