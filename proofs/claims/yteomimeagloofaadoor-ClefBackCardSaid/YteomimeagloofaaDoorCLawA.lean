/- What the statements of stage 6 do by themselves: single places and pitches, the clef of a number, the chapter's examples. -/
import Derived.Test.YteomimeagloofaaDoorCProgZ
namespace Go.Proofs.YteomimeagloofaaDoor
open Go.RowKit

set_option maxHeartbeats 400000 in
theorem mod_pos (a m : Int) (w : World) (ha : 0 ≤ a) (ha1 : a ≤ 9223372036854775807) (hm : 1 ≤ m) (hm1 : m ≤ 1099511627776) :
    Calls Tryd.prog 27 #[.int .i64 a, .int .i64 m] w fun e w' => e = .returned (.int .i64 (a % m)) ∧ w = w' := by
  have r0 := Int.emod_nonneg a (show m ≠ 0 by omega)
  have r1 := Int.emod_lt_of_pos a (show 0 < m by omega)
  go_enter Tryd.func27, Tryd.ntmps27
  go_wp2
  go_ret
  exact ⟨rfl, rfl⟩

set_option maxHeartbeats 400000 in
theorem mod_neg (a m : Int) (w : World) (ha : a < 0) (ha1 : -9223372036854775808 ≤ a) (hm : 1 ≤ m) (hm1 : m ≤ 1099511627776) :
    Calls Tryd.prog 27 #[.int .i64 a, .int .i64 m] w fun e w' => e = .returned (.int .i64 (a % m)) ∧ w = w' := by
  have r0 := Int.emod_nonneg a (show m ≠ 0 by omega)
  have r1 := Int.emod_lt_of_pos a (show 0 < m by omega)
  have t0 : a.tmod m ≤ 0 := by
    have := Int.tmod_nonneg (a := -a) m (by omega)
    rw [Int.neg_tmod] at this; omega
  have t1 : -m < a.tmod m := by
    have := Int.tmod_lt_of_pos (-a) (show 0 < m by omega)
    rw [Int.neg_tmod] at this; omega
  by_cases hd : m ∣ a
  · have e := Lib.hid (Int.tmod_eq_emod (a := a) (b := m))
    have e2 := Lib.hid (show a.tmod m = a % m by rw [e.out, if_pos (.inr hd)]; simp)
    have e3 : 0 ≤ a.tmod m := by rw [e2.out]; exact r0
    clear e hd
    go_enter Tryd.func27, Tryd.ntmps27
    go_wp2
    go_ret
    rw [e2.out]; exact ⟨rfl, rfl⟩
  · have e := Lib.hid (Int.tmod_eq_emod (a := a) (b := m))
    have e2 := Lib.hid (show a.tmod m + m = a % m by rw [e.out, if_neg (by omega)]; omega)
    have e3 : a.tmod m < 0 := by have := e2.out; omega
    clear e hd
    go_enter Tryd.func27, Tryd.ntmps27
    go_wp2
    go_ret
    rw [e2.out]; exact ⟨rfl, rfl⟩

theorem mod_any (a m : Int) (w : World) (ha : -9223372036854775808 ≤ a) (ha1 : a ≤ 9223372036854775807) (hm : 1 ≤ m) (hm1 : m ≤ 1099511627776) :
    Calls Tryd.prog 27 #[.int .i64 a, .int .i64 m] w fun e w' => e = .returned (.int .i64 (a % m)) ∧ w = w' := by
  by_cases h : 0 ≤ a
  · exact mod_pos a m w h ha1 hm hm1
  · exact mod_neg a m w (by omega) ha hm hm1

theorem at_true {s l k place acc : Int} {p : Pi3} (h1 : pitE (s, l) k place acc = 0) (h2 : pitC (s, l) k place acc = p) (w : World) (T : TabC w) :
    Calls Tryd.prog 23 #[.int .i64 s, .int .i64 l, .int .i64 k, .int .i64 place, .int .i64 acc, pv p] w fun e w' => e = .returned (.bool true) ∧ Below w.heap.size w w' := by
  have P := Lib.hid (fun W (b : Below w.heap.size w W) => cpit_any (s, l) k place acc W (T.later b))
  unfold PitPost at P
  rw [pitR_ok h1, h1, h2] at P
  have R := Lib.hid (Cell3.made w p 25)
  clear h1 h2 T
  obtain ⟨a, b, c⟩ := p
  go_enter Tryd.func23, Tryd.ntmps23
  go_wp2_with fail
  refine (P.out _ (w_alloc (w_refl w) (pO (a, b, c)))).mono ?_
  rintro e w1 ⟨rfl, hb⟩
  have hB := Lib.hid (w_below (w_alloc (w_refl w) (pO (a, b, c))) hb)
  obtain ⟨_, r0, r1, r2, _, _, _⟩ := R.out.later hb
  simp only at r0 r1 r2
  clear hb P R
  go_wp2_with fail
  go_ret
  exact ⟨rfl, w_alloc hB.out _⟩

theorem on_true {s l k place acc : Int} {p : Pi3} (h : plaV (s, l) k p = (place, acc, 0)) (w : World) (T : TabC w) :
    Calls Tryd.prog 24 #[.int .i64 s, .int .i64 l, .int .i64 k, pv p, .int .i64 place, .int .i64 acc] w fun e w' => e = .returned (.bool true) ∧ Below w.heap.size w w' := by
  have P := Lib.hid (fun W (b : Below w.heap.size w W) => cpla_any (s, l) k p W (T.later b))
  unfold PlaPost at P
  rw [h] at P
  clear h T
  obtain ⟨a, b, c⟩ := p
  go_enter Tryd.func24, Tryd.ntmps24
  go_wp2_with fail
  refine (P.out _ (w_alloc (w_refl w) (pO (a, b, c)))).mono ?_
  rintro e w1 ⟨rfl, hb⟩
  have hB := Lib.hid (w_below (w_alloc (w_refl w) (pO (a, b, c))) hb)
  clear hb P
  go_wp2_with fail
  go_ret
  exact ⟨rfl, hB.out⟩

theorem ledg_true {x n : Int} (h1 : ledV x = n) (h2 : ledE x = 0) (w : World) :
    Calls Tryd.prog 25 #[.int .i64 x, .int .i64 n] w fun e w' => e = .returned (.bool true) ∧ Below w.heap.size w w' := by
  have P := Lib.hid (fun W => cled_any x W)
  rw [h1, h2] at P
  clear h1 h2
  go_enter Tryd.func25, Tryd.ntmps25
  go_wp2_with fail
  refine (P.out _).mono ?_
  rintro e w1 ⟨rfl, hb⟩
  have hB := Lib.hid hb
  clear hb P
  go_wp2_with fail
  go_ret
  exact ⟨rfl, hB.out⟩

set_option maxHeartbeats 2000000 in
theorem all_any (n : Int) (hn : -9223372036854775808 ≤ n ∧ n ≤ 9223372036854775807) (w : World) : Calls Tryd.prog 26 #[.int .i64 n] w fun e w' => e = .returned (cv (clefN (n % 15).toNat)) ∧ Below w.heap.size w w' := by
  have M := Lib.hid (fun W => mod_any n 15 W hn.1 hn.2 (by decide) (by decide))
  obtain ⟨k, hk⟩ : ∃ k : Nat, (k : Int) = n % 15 := ⟨(n % 15).toNat, by omega⟩
  have hkb : k < 15 := by omega
  rw [← hk] at M ⊢
  rw [Int.toNat_natCast]
  obtain ⟨i, m, rfl, hi, hm⟩ : ∃ i m : Nat, k = 5 * i + m ∧ i < 3 ∧ m < 5 := ⟨k / 5, k % 5, by omega, by omega, by omega⟩
  rw [clefN_at hi hm]
  have d1 : ((5 * i + m : Nat) : Int).tdiv 5 = (i : Int) := by rw [Int.tdiv_eq_ediv_of_nonneg (by omega)]; omega
  have d2 : ((5 * i + m : Nat) : Int).tmod 5 = (m : Int) := by rw [Int.tmod_eq_emod_of_nonneg (by omega)]; omega
  obtain ⟨x, hx⟩ : ∃ x, ((5 * i + m : Nat) : Int) = x := ⟨_, rfl⟩
  rw [hx] at M d1 d2
  have q1 : x / 5 = (i : Int) := by omega
  have q2 : x % 5 = (m : Int) := by omega
  have hx0 : 0 ≤ x ∧ x ≤ 14 := by omega
  have hi0 : (0 : Int) ≤ i := by omega
  have hi1 : (i : Int) < 3 := by omega
  have r0 := Lib.hid (HoldsB.new w 23 #[.int .i64 0, .int .i64 0])
  have hcell := Lib.hid (show (#[Value.int .i64 0, .int .i64 3, .int .i64 4] : Array Value)[i]? = some (.int .i64 (stI i)) by
    have c : i = 0 ∨ i = 1 ∨ i = 2 := by omega
    rcases c with rfl | rfl | rfl <;> rfl)
  clear hk hkb hx hn
  go_enter Tryd.func26, Tryd.ntmps26
  go_wp2_with fail
  refine (M.out _).mono ?_
  rintro e w1 ⟨rfl, rfl⟩
  clear M
  have cI := (HoldsB.new (w.alloc (cO (0, 0))) 3 #[.int .i64 0, .int .i64 3, .int .i64 4]).cell hcell.out
  rw [World.size_alloc] at cI
  go_wp2_with fail
  refine bodyPost_ret (v := cv (stI i, 1 + (m : Int))) (by simp [results, Tryd.results26, go_sem]) rfl ⟨by rw [show (1 : Int) + m = ((m + 1 : Nat) : Int) by omega], ?_⟩
  exact w_alloc (w_alloc (w_refl w) _) _

/-- A list of pitches that is written out. -/
theorem SlP.litP (w : World) (l : List Pi3) (t : TypeId) (h : l.length ≤ 1000) : SlP (w.alloc (.cells (flatP l).toArray t)) 3 (some ⟨w.heap.size, 0, none⟩) l.length l.length (flatP l) := by
  refine ⟨flatP_len l, Nat.le_refl _, by omega, fun e => (by cases e), flatP_one l, fun _ => ⟨w.heap.size, 0, rfl, by simp, fun j u hj => ?_⟩⟩
  have := lit_new w (flatP l).toArray t j u (by simpa using hj)
  rwa [add_none] at this
theorem best_at {k : Int} {l : List Pi3} {c : Cl} {e0 : Int} (hl : l.length ≤ 1000) (h1 : besC k l = c) (h2 : besE k l = e0) (W : World) (T : TabC W) :
    Calls Tryd.prog 21 #[.int .i64 k, .slice (some ⟨W.heap.size, 0, none⟩) l.length l.length] (W.alloc (.cells (flatP l).toArray 25)) fun e w' => e = .returned (.tuple #[cv c, .int .i64 e0]) ∧ Below W.heap.size W w' := by
  subst h1 h2
  refine (cbest_any k _ _ l hl _ (T.al _) (SlP.litP W l 25 hl)).mono ?_
  rintro e w' ⟨rfl, hb⟩
  exact ⟨rfl, w_below (w_alloc (w_refl _) _) hb⟩
theorem best_nil {k : Int} {c : Cl} {e0 : Int} (h1 : besC k [] = c) (h2 : besE k [] = e0) (W : World) (T : TabC W) :
    Calls Tryd.prog 21 #[.int .i64 k, .slice none 0 0] W fun e w' => e = .returned (.tuple #[cv c, .int .i64 e0]) ∧ Below W.heap.size W w' := by
  subst h1 h2
  exact cbest_any k none 0 [] (by simp) W T ⟨rfl, by simp, by omega, fun _ => rfl, by simp [flatP], fun h => by simp at h⟩
theorem led_at {x n e0 : Int} (h1 : ledV x = n) (h2 : ledE x = e0) (W : World) : Calls Tryd.prog 14 #[.int .i64 x] W fun e w' => e = .returned (.tuple #[.int .i64 n, .int .i64 e0]) ∧ Below W.heap.size W w' := by
  subst h1 h2; exact cled_any x W
theorem kn_b1 : besC 0 [(0, 4, 0)] = (0, 1) ∧ besE 0 [(0, 4, 0)] = 0 := by decide +kernel
theorem kn_g12 : ledV 12 = 2 ∧ ledE 12 = 0 := by decide +kernel
theorem kn_at1 : pitE (0, 3) 0 4 0 = 0 ∧ pitC (0, 3) 0 4 0 = (0, 4, 0) := by decide +kernel
theorem kn_at2 : pitE (0, 3) 1 3 0 = 0 ∧ pitC (0, 3) 1 3 0 = (6, 3, -1) := by decide +kernel
theorem kn_on1 : plaV (0, 3) 1 (6, 3, 0) = (3, 2, 0) := by decide +kernel
theorem kn_on2 : plaV (0, 3) 0 (6, 3, 0) = (3, 0, 0) := by decide +kernel

theorem wk_BE : ∀ W : World, TabC W → Calls Tryd.prog 21 #[.int .i64 0, .slice (some ⟨W.heap.size, 0, none⟩) 1 1] (W.alloc (.cells #[.int .i64 0, .int .i64 4, .int .i64 0] 25)) fun e w' => e = .returned (.tuple #[.agg #[.int .i64 0, .int .i64 1], .int .i64 0]) ∧ Below W.heap.size W w' := fun W T => best_at (k := 0) (l := [(0, 4, 0)]) (c := (0, 1)) (e0 := 0) (by decide) kn_b1.1 kn_b1.2 W T
theorem wk_LE : ∀ W : World, Calls Tryd.prog 14 #[.int .i64 12] W fun e w' => e = .returned (.tuple #[.int .i64 2, .int .i64 0]) ∧ Below W.heap.size W w' := fun W => led_at (x := 12) (n := 2) (e0 := 0) kn_g12.1 kn_g12.2 W
theorem wk_A1 : ∀ W : World, TabC W → Calls Tryd.prog 23 #[.int .i64 0, .int .i64 3, .int .i64 0, .int .i64 4, .int .i64 0, .agg #[.int .i64 0, .int .i64 4, .int .i64 0]] W fun e w' => e = .returned (.bool true) ∧ Below W.heap.size W w' := fun W T => at_true (s := 0) (l := 3) (k := 0) (place := 4) (acc := 0) (p := (0, 4, 0)) kn_at1.1 kn_at1.2 W T
theorem wk_A2 : ∀ W : World, TabC W → Calls Tryd.prog 23 #[.int .i64 0, .int .i64 3, .int .i64 1, .int .i64 3, .int .i64 0, .agg #[.int .i64 6, .int .i64 3, .int .i64 (-1)]] W fun e w' => e = .returned (.bool true) ∧ Below W.heap.size W w' := fun W T => at_true (s := 0) (l := 3) (k := 1) (place := 3) (acc := 0) (p := (6, 3, -1)) kn_at2.1 kn_at2.2 W T
theorem wk_O1 : ∀ W : World, TabC W → Calls Tryd.prog 24 #[.int .i64 0, .int .i64 3, .int .i64 1, .agg #[.int .i64 6, .int .i64 3, .int .i64 0], .int .i64 3, .int .i64 2] W fun e w' => e = .returned (.bool true) ∧ Below W.heap.size W w' := fun W T => on_true (s := 0) (l := 3) (k := 1) (place := 3) (acc := 2) (p := (6, 3, 0)) kn_on1 W T
theorem wk_O2 : ∀ W : World, TabC W → Calls Tryd.prog 24 #[.int .i64 0, .int .i64 3, .int .i64 0, .agg #[.int .i64 6, .int .i64 3, .int .i64 0], .int .i64 3, .int .i64 0] W fun e w' => e = .returned (.bool true) ∧ Below W.heap.size W w' := fun W T => on_true (s := 0) (l := 3) (k := 0) (place := 3) (acc := 0) (p := (6, 3, 0)) kn_on2 W T

set_option maxRecDepth 100000 in
set_option maxHeartbeats 4000000 in
theorem cwake_any (w : World) (T : TabC w) : Calls Tryd.prog 18 #[] w fun e w' => e = .returned (.bool true) ∧ Below w.heap.size w w' := by
  have BE := Lib.hid wk_BE
  have LE := Lib.hid wk_LE
  have A1 := Lib.hid wk_A1
  have A2 := Lib.hid wk_A2
  have O1 := Lib.hid wk_O1
  have O2 := Lib.hid wk_O2
  have TB := Lib.hid (fun W (b : Below w.heap.size w W) => T.later b)
  clear T
  have R := Lib.hid (Cell3.made w (6, 3, 0) 25)
  have hB := Lib.hid (w_alloc (w_refl w) (pO (6, 3, 0)))
  go_enter Tryd.func18, Tryd.ntmps18
  go_wp2_with fail
  have B1 := BE.out (w.alloc (pO (6, 3, 0))) (TB.out _ hB.out)
  have hsz := World.size_alloc w (pO (6, 3, 0))
  rw [hsz] at B1
  refine B1.mono ?_
  rintro e w1 ⟨rfl, hb⟩
  rw [← hsz] at hb
  clear B1 hsz
  have hb9 := w_alloc hb (cO (0, 1))
  replace hB := Lib.hid (w_below hB.out hb9)
  replace R := Lib.hid (R.out.later hb9)
  have T := Lib.hid (Two2.made w1 (0, 1) 23)
  clear hb hb9 BE
  go_wp2_with fail
  refine (LE.out _).mono ?_
  rintro e w2 ⟨rfl, hb⟩
  replace hB := Lib.hid (w_below hB.out hb)
  replace R := Lib.hid (R.out.later hb)
  replace T := Lib.hid (T.out.later hb)
  clear hb LE
  go_wp2_with fail
  refine (A1.out _ (TB.out _ hB.out)).mono ?_
  rintro e w3 ⟨rfl, hb⟩
  replace hB := Lib.hid (w_below hB.out hb)
  replace R := Lib.hid (R.out.later hb)
  replace T := Lib.hid (T.out.later hb)
  clear hb A1
  go_wp2_with fail
  refine (A2.out _ (TB.out _ hB.out)).mono ?_
  rintro e w4 ⟨rfl, hb⟩
  replace hB := Lib.hid (w_below hB.out hb)
  replace R := Lib.hid (R.out.later hb)
  replace T := Lib.hid (T.out.later hb)
  clear hb A2
  obtain ⟨_, r0, r1, r2, _, _, _⟩ := R.out
  simp only at r0 r1 r2
  go_wp2_with fail
  clear r0 r1 r2
  refine (O1.out _ (TB.out _ hB.out)).mono ?_
  rintro e w5 ⟨rfl, hb⟩
  replace hB := Lib.hid (w_below hB.out hb)
  replace R := Lib.hid (R.out.later hb)
  replace T := Lib.hid (T.out.later hb)
  clear hb O1
  obtain ⟨_, r0, r1, r2, _, _, _⟩ := R.out
  simp only at r0 r1 r2
  go_wp2_with fail
  clear r0 r1 r2
  refine (O2.out _ (TB.out _ hB.out)).mono ?_
  rintro e w6 ⟨rfl, hb⟩
  replace hB := Lib.hid (w_below hB.out hb)
  obtain ⟨_, t0, t1, _, _⟩ := T.out.later hb
  simp only at t0 t1
  clear hb O2
  go_wp2_with fail
  go_ret
  exact ⟨rfl, hB.out⟩

end Go.Proofs.YteomimeagloofaaDoor
