/- The reference: places, pitches and ways, or which errors. -/
import Derived.Test.YtaldbjhalpgkeaaDoorGRefD
namespace Go.Proofs.YtaldbjhalpgkeaaDoor
open Go.RowKit

def placeV (p : Pi3) : Int × Int := if okP p ∧ 18 ≤ numI p ∧ numI p ≤ 37 then (numI p - 18, 0) else (0, 2)

set_option maxHeartbeats 1000000 in
theorem rplace_any (p : Pi3) (w : World) : Calls Tryd.prog 12 #[pv p] w fun e w' => e = .returned (.tuple #[.int .i64 (placeV p).1, .int .i64 (placeV p).2]) ∧ Below w.heap.size w w' := by
  have N := Lib.hid (fun W => rnumber_any p W)
  unfold placeV
  by_cases h : okP p
  · rw [numV_ok h] at N
    have hb := num_bd h
    generalize numI p = n at *
    have ways : (n < 18 ∧ ¬ (okP p ∧ 18 ≤ n ∧ n ≤ 37)) ∨ (18 ≤ n ∧ 37 < n ∧ ¬ (okP p ∧ 18 ≤ n ∧ n ≤ 37)) ∨ (18 ≤ n ∧ n ≤ 37 ∧ (okP p ∧ 18 ≤ n ∧ n ≤ 37)) := by
      by_cases a : n < 18
      · exact .inl ⟨a, fun x => by omega⟩
      · by_cases b : 37 < n
        · exact .inr (.inl ⟨by omega, b, fun x => by omega⟩)
        · exact .inr (.inr ⟨by omega, by omega, h, by omega, by omega⟩)
    have x1 : IntKind.i64.wrap (n - 18) = n - 18 := IntWalk.i64_in _ (by omega)
    clear h
    rcases ways with ⟨a1, a2⟩ | ⟨a1, a3, a2⟩ | ⟨a1, a3, a2⟩
    · rw [if_neg a2]
      clear a2
      go_enter Tryd.func12, Tryd.ntmps12
      go_wp2_with fail
      refine (N.out _).mono ?_
      rintro e w1 ⟨rfl, hb⟩
      have hB := Lib.hid (w_below (w_alloc (w_refl w) _) hb)
      clear hb N
      go_wp2_with fail
      go_ret2
      exact ⟨rfl, hB.out⟩
    · rw [if_neg a2]
      clear a2
      go_enter Tryd.func12, Tryd.ntmps12
      go_wp2_with fail
      refine (N.out _).mono ?_
      rintro e w1 ⟨rfl, hb⟩
      have hB := Lib.hid (w_below (w_alloc (w_refl w) _) hb)
      clear hb N
      go_wp2_with fail
      go_ret2
      exact ⟨rfl, hB.out⟩
    · rw [if_pos a2]
      clear a2
      go_enter Tryd.func12, Tryd.ntmps12
      go_wp2_with fail
      refine (N.out _).mono ?_
      rintro e w1 ⟨rfl, hb⟩
      have hB := Lib.hid (w_below (w_alloc (w_refl w) _) hb)
      clear hb N
      go_wp2_with fail
      go_ret2
      exact ⟨rfl, hB.out⟩
  · rw [if_neg (fun x => h x.1)]
    rw [numV_no h] at N
    clear h
    go_enter Tryd.func12, Tryd.ntmps12
    go_wp2_with fail
    refine (N.out _).mono ?_
    rintro e w1 ⟨rfl, hb⟩
    have hB := Lib.hid (w_below (w_alloc (w_refl w) _) hb)
    clear hb N
    go_wp2_with fail
    go_ret2
    exact ⟨rfl, hB.out⟩

def pitV (s : Sy) : Pi3 × Int := if okS s then (madeS s, 0) else ((0, 0, 0), 2)
def PitPost (r : Pi3 × Int) (w : World) (e : Ending) (w' : World) : Prop := e = .returned (.tuple #[pv r.1, .int .i64 r.2]) ∧ Below w.heap.size w w'

set_option maxHeartbeats 1000000 in
theorem rpitch_any (s : Sy) (w : World) : Calls Tryd.prog 17 #[sv s] w (PitPost (pitV s) w) := by
  unfold pitV
  by_cases h : okS s
  · rw [if_pos h]
    have M := Lib.hid (fun W => rmade_any s h W)
    have R := Lib.hid (boxesE w (sO s) (0, 0, 0) 23)
    obtain ⟨a, b⟩ := s
    obtain ⟨⟨h1, h2⟩, h3, h4⟩ := h
    simp only at h1 h2 h3 h4
    generalize madeS (a, b) = q at *
    go_enter Tryd.func17, Tryd.ntmps17
    go_wp2_with fail
    refine (M.out _).mono ?_
    rintro e w1 ⟨rfl, hb⟩
    obtain ⟨_, d0, d1, d2, f0, f1, f2⟩ := R.out.later hb
    have hB := Lib.hid (w_below (w_alloc (w_alloc (w_refl w) _) _) hb)
    clear hb M R
    go_wp2_with fail
    refine bodyPost_ret (v := .tuple #[pv q, .int .i64 0]) (by simp [results, Tryd.results17, go_sem, d0, d1, d2]) rfl ⟨rfl, ?_⟩
    exact w_set (w_set (w_set hB.out (by simp) _) (by simp) _) (by simp) _
  · rw [if_neg h]
    have R := Lib.hid (boxesE w (sO s) (0, 0, 0) 23)
    obtain ⟨a, b⟩ := s
    unfold okS at h
    simp only at h
    have ways : a < 1 ∨ (1 ≤ a ∧ 7 < a) ∨ (1 ≤ a ∧ a ≤ 7 ∧ b < 1) ∨ (1 ≤ a ∧ a ≤ 7 ∧ 1 ≤ b ∧ 6 < b) := by omega
    clear h
    rcases ways with h1 | ⟨h1, h2⟩ | ⟨h1, h2, h3⟩ | ⟨h1, h2, h3, h4⟩
    all_goals
      obtain ⟨_, d0, d1, d2, f0, f1, f2⟩ := R.out
      go_enter Tryd.func17, Tryd.ntmps17
      go_wp2_with fail
      refine bodyPost_ret (v := .tuple #[pv (0, 0, 0), .int .i64 2]) (by simp [results, Tryd.results17, go_sem]) rfl ⟨rfl, ?_⟩
      exact w_alloc (w_alloc (w_refl w) _) _

/-- What Ways hands back. -/
def WaysPost (p : Pi3) (w : World) (e : Ending) (w' : World) : Prop := ∃ v, e = .returned (.tuple #[v, .int .i64 (chkV p)]) ∧ SylV w' v (if okP p then waysL p else []) ∧ Below w.heap.size w w'
theorem SylV.none (w : World) : SylV w (.slice none 0 0) [] := ⟨_, 0, rfl, ⟨rfl, by simp, by omega, fun _ => rfl, by simp [flatS], fun h => by simp at h⟩⟩

set_option maxHeartbeats 1000000 in
theorem rways_any (p : Pi3) (w : World) : Calls Tryd.prog 14 #[pv p] w (WaysPost p w) := by
  have C := Lib.hid (fun W => rcheck_any p W)
  have M := Lib.hid (fun W => rmadeways_any p W)
  have K := Lib.hid (Cell3.made w p 23)
  unfold WaysPost
  by_cases h : okP p
  · rw [if_pos h, chkV_ok h]
    rw [chkV_ok h] at C
    clear h
    generalize waysL p = L at *
    go_enter Tryd.func14, Tryd.ntmps14
    go_wp2_with fail
    refine (C.out _).mono ?_
    rintro e w1 ⟨rfl, hb⟩
    obtain ⟨_, c0, c1, c2, _, _, _⟩ := K.out.later hb
    have hB := Lib.hid (w_below (w_alloc (w_refl w) _) hb)
    clear hb C K
    go_wp2_with fail
    refine (M.out _).mono ?_
    rintro e w2 ⟨v, rfl, hv, hb⟩
    have hV := Lib.hid hv
    have hB2 := Lib.hid (w_below hB.out hb)
    clear hb M hB hv c0 c1 c2
    go_wp2_with fail
    go_ret2
    exact ⟨_, rfl, hV.out, hB2.out⟩
  · rw [if_neg h, chkV_no h]
    rw [chkV_no h] at C
    clear h M K
    go_enter Tryd.func14, Tryd.ntmps14
    go_wp2_with fail
    refine (C.out _).mono ?_
    rintro e w1 ⟨rfl, hb⟩
    have hB := Lib.hid (w_below (w_alloc (w_refl w) _) hb)
    clear hb C
    go_wp2_with fail
    go_ret2
    exact ⟨_, rfl, SylV.none _, hB.out⟩

end Go.Proofs.YtaldbjhalpgkeaaDoor
