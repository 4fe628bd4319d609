/- The small times that the statements make of numbers: the kit's Mod and Span. -/
import Derived.Test.YtjgkliiofechfaaDoorAwake
namespace Go.Proofs.YtjgkliiofechfaaDoor
open Go.RowKit

set_option maxHeartbeats 400000 in
theorem mod_pos (a m : Int) (w : World) (ha : 0 ≤ a) (ha1 : a ≤ 9223372036854775807) (hm : 1 ≤ m) (hm1 : m ≤ 1099511627776) :
    Calls Tryd.prog 43 #[.int .i64 a, .int .i64 m] w fun e w' => e = .returned (.int .i64 (a % m)) ∧ w = w' := by
  have r0 := Int.emod_nonneg a (show m ≠ 0 by omega)
  have r1 := Int.emod_lt_of_pos a (show 0 < m by omega)
  go_enter Tryd.func43, Tryd.ntmps43
  go_wp2
  go_ret
  exact ⟨rfl, rfl⟩

set_option maxHeartbeats 400000 in
theorem mod_neg (a m : Int) (w : World) (ha : a < 0) (ha1 : -9223372036854775808 ≤ a) (hm : 1 ≤ m) (hm1 : m ≤ 1099511627776) :
    Calls Tryd.prog 43 #[.int .i64 a, .int .i64 m] w fun e w' => e = .returned (.int .i64 (a % m)) ∧ w = w' := by
  have r0 := Int.emod_nonneg a (show m ≠ 0 by omega)
  have r1 := Int.emod_lt_of_pos a (show 0 < m by omega)
  have t0 : a.tmod m ≤ 0 := by
    have := Int.tmod_nonneg (a := -a) m (by omega)
    rw [Int.neg_tmod] at this; omega
  have t1 : -m < a.tmod m := by
    have := Int.tmod_lt_of_pos (-a) (show 0 < m by omega)
    rw [Int.neg_tmod] at this; omega
  by_cases hd : m ∣ a
  · have e := Lib.hid (Int.tmod_eq_emod (a := a) (b := m))
    have e2 := Lib.hid (show a.tmod m = a % m by rw [e.out, if_pos (.inr hd)]; simp)
    have e3 : 0 ≤ a.tmod m := by rw [e2.out]; exact r0
    clear e hd
    go_enter Tryd.func43, Tryd.ntmps43
    go_wp2
    go_ret
    rw [e2.out]; exact ⟨rfl, rfl⟩
  · have e := Lib.hid (Int.tmod_eq_emod (a := a) (b := m))
    have e2 := Lib.hid (show a.tmod m + m = a % m by rw [e.out, if_neg (by omega)]; omega)
    have e3 : a.tmod m < 0 := by have := e2.out; omega
    clear e hd
    go_enter Tryd.func43, Tryd.ntmps43
    go_wp2
    go_ret
    rw [e2.out]; exact ⟨rfl, rfl⟩

theorem mod_any (a m : Int) (w : World) (ha : -9223372036854775808 ≤ a) (ha1 : a ≤ 9223372036854775807) (hm : 1 ≤ m) (hm1 : m ≤ 1099511627776) :
    Calls Tryd.prog 43 #[.int .i64 a, .int .i64 m] w fun e w' => e = .returned (.int .i64 (a % m)) ∧ w = w' := by
  by_cases h : 0 ≤ a
  · exact mod_pos a m w h ha1 hm hm1
  · exact mod_neg a m w (by omega) ha hm hm1

/-- A small time above 0: 24 is a multiple of its denominator. -/
structure Small (n d : Int) : Prop where
  n1 : 1 ≤ n
  n2 : n ≤ 24
  d1 : 1 ≤ d
  d2 : d ≤ 8
  dv : ∃ k, d * k = 24
  co : gcdI n d = 1

theorem small_of {p q k : Int} (hp : 1 ≤ p) (hp1 : p ≤ 24) (hq : 1 ≤ q) (hq1 : q ≤ 8) (hk : q * k = 24) : Small (p / gcdI p q) (q / gcdI p q) := by
  refine ⟨cut_pos_left q hp, ?_, cut_pos p hq, ?_, ⟨gcdI p q * k, ?_⟩, gcdI_cut p q (by omega) hq⟩
  · have := cut_le q (show 0 ≤ p by omega); omega
  · have := cut_le_right p (show 0 ≤ q by omega); omega
  · rw [← Int.mul_assoc, gcdI_back_right]; exact hk

/-- The kit's Span gives a small time. -/
def SmallPost (w : World) (e : Ending) (w' : World) : Prop := Below w.heap.size w w' ∧ ∃ n d, Small n d ∧ e = .returned (tv n d)

set_option maxHeartbeats 4000000 in
theorem span_at (a k j p m : Int) (w : World) (ha : -9223372036854775808 ≤ a) (ha1 : a ≤ 9223372036854775807) (hk : a % 216 = k) (hj : k % 9 = j) (hp : 1 ≤ p) (hp1 : p ≤ 8) (hm : p * m = 24)
    (hc : ∀ W : World, (W.alloc (.cells #[.int .i64 1, .int .i64 1, .int .i64 1, .int .i64 2, .int .i64 2, .int .i64 3, .int .i64 4, .int .i64 6, .int .i64 8] 3)).cell? ⟨W.heap.size, j.toNat, none⟩ = some (.int .i64 p)) :
    Calls Tryd.prog 41 #[.int .i64 a] w (SmallPost w) := by
  have M := Lib.hid (fun W => mod_any a 216 W ha ha1 (by omega) (by omega))
  rw [hk] at M
  have k0 : 0 ≤ k := by rw [← hk]; exact Int.emod_nonneg a (by omega)
  have k1 : k < 216 := by rw [← hk]; exact Int.emod_lt_of_pos a (by omega)
  have d0 : 0 ≤ k / 9 := by omega
  have d1 : k / 9 ≤ 23 := by omega
  have j0 : 0 ≤ k % 9 := by omega
  have j1 : k % 9 < 9 := by omega
  have hc2 := hc (w.alloc (.cells #[.int .i64 0, .int .i64 0] 23))
  rw [← hj] at hc2
  simp only [World.size_alloc] at hc2
  clear hk hc
  have hs := Lib.hid (small_of (p := 1 + k / 9) (by omega) (by omega) hp hp1 hm)
  have T := Lib.hid (fun W => t_any (1 + k / 9) p W (by omega) (by omega) (by omega) (by omega))
  clear hm hj
  go_enter Tryd.func41, Tryd.ntmps41
  go_wp2_with fail
  refine (M.out _).mono ?_
  rintro e w1 ⟨rfl, rfl⟩
  go_wp2_with fail
  refine (T.out _).mono ?_
  rintro e w1 ⟨rfl, hb1⟩
  obtain ⟨i0, o0, o1, o2, o3⟩ := ((Own2.made w 0 0 23).later (ba (br _) _)).later hb1
  clear hc2
  go_wp2_with fail
  exact bodyPost_ret (v := tv ((1 + k / 9) / gcdI (1 + k / 9) p) (p / gcdI (1 + k / 9) p)) (by simp [results, Tryd.results41, go_sem, o0, o1]) rfl
    ⟨by repeat (first | exact br _ | refine ba ?_ _ | refine bs ?_ (by first | (simp; done) | (simp; omega) | omega) _ | refine bl ?_ hb1), _, _, hs.out, rfl⟩

theorem span_any (a : Int) (w : World) (ha : -9223372036854775808 ≤ a) (ha1 : a ≤ 9223372036854775807) : Calls Tryd.prog 41 #[.int .i64 a] w (SmallPost w) := by
  have h0 : 0 ≤ a % 216 % 9 := by omega
  have h1 : a % 216 % 9 < 9 := by omega
  by_cases c0 : a % 216 % 9 = 0
  · exact span_at a _ _ 1 24 w ha ha1 rfl c0 (by omega) (by omega) (by omega) (fun W => by simp [go_sem])
  by_cases c1 : a % 216 % 9 = 1
  · exact span_at a _ _ 1 24 w ha ha1 rfl c1 (by omega) (by omega) (by omega) (fun W => by simp [go_sem])
  by_cases c2 : a % 216 % 9 = 2
  · exact span_at a _ _ 1 24 w ha ha1 rfl c2 (by omega) (by omega) (by omega) (fun W => by simp [go_sem])
  by_cases c3 : a % 216 % 9 = 3
  · exact span_at a _ _ 2 12 w ha ha1 rfl c3 (by omega) (by omega) (by omega) (fun W => by simp [go_sem])
  by_cases c4 : a % 216 % 9 = 4
  · exact span_at a _ _ 2 12 w ha ha1 rfl c4 (by omega) (by omega) (by omega) (fun W => by simp [go_sem])
  by_cases c5 : a % 216 % 9 = 5
  · exact span_at a _ _ 3 8 w ha ha1 rfl c5 (by omega) (by omega) (by omega) (fun W => by simp [go_sem])
  by_cases c6 : a % 216 % 9 = 6
  · exact span_at a _ _ 4 6 w ha ha1 rfl c6 (by omega) (by omega) (by omega) (fun W => by simp [go_sem])
  by_cases c7 : a % 216 % 9 = 7
  · exact span_at a _ _ 6 4 w ha ha1 rfl c7 (by omega) (by omega) (by omega) (fun W => by simp [go_sem])
  · exact span_at a _ _ 8 3 w ha ha1 rfl (show a % 216 % 9 = 8 by omega) (by omega) (by omega) (by omega) (fun W => by simp [go_sem])

end Go.Proofs.YtjgkliiofechfaaDoor
