/- The reference's value. -/
import Derived.Test.YtedkcnphplpacaaLgRefA
namespace Go.Proofs.Ytedkcnphplpacaa
open Go.RowKit
attribute [local go_sem] sgA_g0 sgA_g1 sgA_g2 sgA_g3 sgA_g4 sgA_g5 sgA_g6 sgA_g7 sgA_g8 sgA_g9 sgA_g10 sgA_g11 sgA_g12 sgA_g13 sgA_g14 sgA_g15 sgA_g16

theorem val_right {l : List Sg} {i : Nat} (h : (l.getD i zS).stem = 3) : valG l i = 2 := if_pos h
theorem val_up {l : List Sg} {i : Nat} (h : ¬ (l.getD i zS).stem = 3) (k : i < 2 ∧ (l.getD 0 zS).stem = 1) : valG l i = 4 := by unfold valG; rw [if_neg h, if_pos k]
theorem val_first {l : List Sg} (h : ¬ (l.getD 0 zS).stem = 3) (k : ¬ (l.getD 0 zS).stem = 1) : valG l 0 = if decide ((l.getD 1 zS).place < (l.getD 0 zS).place) != decide ((l.getD 0 zS).stem = 2) then 2 else 3 := by
  unfold valG; rw [if_neg h, if_neg (fun x => k x.2), if_pos rfl]
theorem val_later {l : List Sg} {j : Nat} (h : ¬ (l.getD (j + 1) zS).stem = 3) (k : ¬ (j + 1 < 2 ∧ (l.getD 0 zS).stem = 1)) : valG l (j + 1) = if j + 2 = l.length ∧ (l.getD j zS).obl = false ∧ (l.getD (j + 1) zS).place < (l.getD j zS).place then 2 else 3 := by
  unfold valG; rw [if_neg h, if_neg k, if_neg (by omega)]; rfl

set_option maxRecDepth 100000 in
set_option maxHeartbeats 8000000 in
theorem rval_any (l : List Sg) (i : Nat) (hi : i < l.length) (h2 : 2 ≤ l.length) (hm : l.length ≤ 1000) (p : Option Addr) (cap : Nat) (w : World) (h : SlP w 17 p l.length cap (flatG l)) :
    Calls Try.prog 45 #[.slice p l.length cap, .int .i64 i] w fun e w' => e = .returned (.int .i64 (valG l i)) ∧ Below w.heap.size w w' := by
  have f1 := h.fit
  have f2 := h.max
  obtain ⟨b, off, rfl, _, hs⟩ := h.sg (sg_some hi)
  have hlt : (i : Int) < l.length := by omega
  have hi0 : (0 : Int) ≤ i := by omega
  have hl0 : (0 : Int) < l.length := by omega
  have hl1 : (1 : Int) < l.length := by omega
  have e5 := hs.e5
  by_cases h3 : (l.getD i zS).stem = 3
  · rw [val_right h3]
    have q : ((l.getD i zS).stem == 3) = true := beq_iff_eq.2 h3
    clear h3 hs h
    generalize l.getD i zS = s at *
    go_enter Try.func45, Try.ntmps45
    go_wp2_with fail
    go_ret
    exact ⟨rfl, w_refl _⟩
  have q3 : ((l.getD i zS).stem == 3) = false := beq_eq_false_iff_ne.2 h3
  obtain ⟨_, _, e9, _, h0⟩ := h.sg (sg_some (show 0 < l.length by omega))
  injection e9 with e9
  injection e9 with e9 e10 _
  subst e9 e10
  have z5 := h0.e5
  simp only [Nat.zero_mul, Nat.add_zero] at z5
  by_cases hu : i < 2 ∧ (l.getD 0 zS).stem = 1
  · rw [val_up h3 hu]
    have q1 : ((l.getD 0 zS).stem == 1) = true := beq_iff_eq.2 hu.2
    have q2 : (i : Int) < 2 := by omega
    clear h3 hs h h0 hu
    generalize l.getD i zS = s at *
    generalize l.getD 0 zS = s0 at *
    go_enter Try.func45, Try.ntmps45
    go_wp2_with fail
    go_ret
    exact ⟨rfl, w_refl _⟩
  by_cases hz : i = 0
  · subst hz
    have hu1 : ¬ (l.getD 0 zS).stem = 1 := fun x => hu ⟨by omega, x⟩
    rw [val_first h3 hu1]
    have q1 : ((l.getD 0 zS).stem == 1) = false := beq_eq_false_iff_ne.2 hu1
    obtain ⟨_, _, e9, _, h1⟩ := h.sg (sg_some (show 1 < l.length by omega))
    injection e9 with e9
    injection e9 with e9 e10 _
    subst e9 e10
    have z2 := h0.e2
    have y2 := h1.e2
    simp only [Nat.zero_mul, Nat.add_zero, Nat.one_mul] at z2 y2
    clear h3 hs h h0 h1 hu hu1 e5
    generalize l.getD 0 zS = s0 at *
    generalize l.getD 1 zS = s1 at *
    have hL : s1.place < s0.place ∨ ¬ s1.place < s0.place := by omega
    have hS : s0.stem = 2 ∨ ¬ s0.stem = 2 := by omega
    rcases hL with hL | hL <;> rcases hS with hS | hS
    · rw [decide_eq_true hL, decide_eq_true hS]
      have r : (s0.stem == 2) = true := by simp [hS]
      clear hS
      go_enter Try.func45, Try.ntmps45
      go_wp2_with fail
      go_quiet (fail)
      go_wp2_with fail
      go_ret
      exact ⟨rfl, ⟨rfl, rfl, rfl, Nat.le_refl _, fun _ _ => rfl⟩⟩
    · rw [decide_eq_true hL, decide_eq_false hS]
      have r : (s0.stem == 2) = false := by simp [hS]
      clear hS
      go_enter Try.func45, Try.ntmps45
      go_wp2_with fail
      go_quiet (fail)
      go_wp2_with fail
      go_ret
      exact ⟨rfl, ⟨rfl, rfl, rfl, Nat.le_refl _, fun _ _ => rfl⟩⟩
    · rw [decide_eq_false hL, decide_eq_true hS]
      have r : (s0.stem == 2) = true := by simp [hS]
      clear hS
      go_enter Try.func45, Try.ntmps45
      go_wp2_with fail
      go_quiet (fail)
      go_wp2_with fail
      go_ret
      exact ⟨rfl, ⟨rfl, rfl, rfl, Nat.le_refl _, fun _ _ => rfl⟩⟩
    · rw [decide_eq_false hL, decide_eq_false hS]
      have r : (s0.stem == 2) = false := by simp [hS]
      clear hS
      go_enter Try.func45, Try.ntmps45
      go_wp2_with fail
      go_quiet (fail)
      go_wp2_with fail
      go_ret
      exact ⟨rfl, ⟨rfl, rfl, rfl, Nat.le_refl _, fun _ _ => rfl⟩⟩
  · obtain ⟨j, rfl⟩ : ∃ j, i = j + 1 := ⟨i - 1, by omega⟩
    rw [val_later h3 hu]
    obtain ⟨_, _, e9, _, h1⟩ := h.sg (sg_some (show j < l.length by omega))
    injection e9 with e9
    injection e9 with e9 e10 _
    subst e9 e10
    have p6 := h1.e6
    have p2 := h1.e2
    have s2 := hs.e2
    have x1 : IntKind.i64.wrap ((l.length : Int) - 1) = (l.length : Int) - 1 := IntWalk.i64_in _ (by omega)
    obtain ⟨z, hzv⟩ : ∃ z, ((j + 1 : Nat) : Int) = z := ⟨_, rfl⟩
    have x2 : IntKind.i64.wrap (z - 1) = (j : Int) := by rw [IntWalk.i64_in _ (by omega)]; omega
    have hj0 : (0 : Int) ≤ (j : Int) := by omega
    have hj1 : (j : Int) < l.length := by omega
    have hz0 : (z == 0) = false := by simp; omega
    have hzn : z.toNat = j + 1 := by omega
    have hzl : z < l.length := by omega
    have hz1 : 0 ≤ z := by omega
    have hub : (¬ z < 2) ∨ (z < 2 ∧ ((l.getD 0 zS).stem == 1) = false) := by
      by_cases q : j + 1 < 2
      · exact .inr ⟨by omega, by simp only [beq_eq_false_iff_ne]; exact fun x => hu ⟨q, x⟩⟩
      · exact .inl (by omega)
    have hlb : (z == (l.length : Int) - 1) = decide (j + 2 = l.length) := by
      by_cases e : j + 2 = l.length
      · rw [decide_eq_true e]; simp; omega
      · rw [decide_eq_false e]; simp; omega
    have hfin : ∀ x : Bool, x = (decide (j + 2 = l.length) && (!(l.getD j zS).obl && decide ((l.getD (j + 1) zS).place < (l.getD j zS).place))) → (if j + 2 = l.length ∧ (l.getD j zS).obl = false ∧ (l.getD (j + 1) zS).place < (l.getD j zS).place then (2 : Int) else 3) = if x = true then 2 else 3 := by
      rintro x rfl
      simp
    have HF := Lib.hid hfin
    rw [hzv]
    clear hfin h3 hu hz h hs h0 h1 hzv hi hlt hi0
    generalize (if j + 2 = l.length ∧ (l.getD j zS).obl = false ∧ (l.getD (j + 1) zS).place < (l.getD j zS).place then (2 : Int) else 3) = E at *
    generalize l.getD 0 zS = s0 at *
    generalize l.getD (j + 1) zS = s at *
    generalize l.getD j zS = q at *
    generalize decide (j + 2 = l.length) = LB at *
    rcases hub with hub | ⟨hub, hub2⟩
    all_goals
      go_enter Try.func45, Try.ntmps45
      go_wp2_with fail
      cases LB with
      | false =>
        have hE := Lib.hid (HF.out false (by simp))
        clear HF
        go_quiet (fail)
        go_wp2_with fail
        go_ret
        exact ⟨by rw [hE.out]; rfl, ⟨rfl, rfl, rfl, Nat.le_refl _, fun _ _ => rfl⟩⟩
      | true =>
        cases ho : q.obl with
        | true =>
          rw [ho] at p6
          have hE := Lib.hid (HF.out false (by simp [ho]))
          clear HF
          go_quiet (fail)
          go_wp2_with fail
          go_ret
          exact ⟨by rw [hE.out]; rfl, ⟨rfl, rfl, rfl, Nat.le_refl _, fun _ _ => rfl⟩⟩
        | false =>
          rw [ho] at p6
          by_cases hp : s.place < q.place
          · have hE := Lib.hid (HF.out true (by simp [ho, hp]))
            clear HF
            go_quiet (fail)
            go_wp2_with fail
            go_ret
            exact ⟨by rw [hE.out]; rfl, ⟨rfl, rfl, rfl, Nat.le_refl _, fun _ _ => rfl⟩⟩
          · have hE := Lib.hid (HF.out false (by simp [ho, hp]))
            clear HF
            go_quiet (fail)
            go_wp2_with fail
            go_ret
            exact ⟨by rw [hE.out]; rfl, ⟨rfl, rfl, rfl, Nat.le_refl _, fun _ _ => rfl⟩⟩

end Go.Proofs.Ytedkcnphplpacaa
