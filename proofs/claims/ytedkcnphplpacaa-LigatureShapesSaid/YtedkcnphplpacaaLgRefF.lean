/- The reference's asks: the error of places and values. -/
import Derived.Test.YtedkcnphplpacaaLgRefE
namespace Go.Proofs.Ytedkcnphplpacaa
open Go.RowKit

def okPV (p v : Int) : Prop := (-4 ≤ p ∧ p ≤ 12) ∧ (1 ≤ v ∧ v ≤ 8)
instance (p v : Int) : Decidable (okPV p v) := by unfold okPV; infer_instance
def askE (ps vs : List Int) : Int := if 2 ≤ ps.length ∧ ps.length ≤ 12 then (if vs.length = ps.length then (if ∀ i ∈ List.range ps.length, okPV (ps.getD i 0) (vs.getD i 0) then 0 else 2) else 3) else 11
theorem ask_full {ps vs : List Int} (h : ¬ (2 ≤ ps.length ∧ ps.length ≤ 12)) : askE ps vs = 11 := if_neg h
theorem ask_form {ps vs : List Int} (h : 2 ≤ ps.length ∧ ps.length ≤ 12) (k : ¬ vs.length = ps.length) : askE ps vs = 3 := by unfold askE; rw [if_pos h, if_neg k]
theorem ask_bad {ps vs : List Int} (h : 2 ≤ ps.length ∧ ps.length ≤ 12) (k : vs.length = ps.length) {j : Nat} (hj : j < ps.length) (hb : ¬ okPV (ps.getD j 0) (vs.getD j 0)) : askE ps vs = 2 := by
  unfold askE; rw [if_pos h, if_pos k, if_neg (fun x => hb (x j (List.mem_range.2 hj)))]
theorem ask_ok {ps vs : List Int} (h : 2 ≤ ps.length ∧ ps.length ≤ 12) (k : vs.length = ps.length) (hb : ∀ j, j < ps.length → okPV (ps.getD j 0) (vs.getD j 0)) : askE ps vs = 0 := by
  unfold askE; rw [if_pos h, if_pos k, if_pos (fun i hi => hb i (List.mem_range.1 hi))]
theorem int_at {w : World} {b off cap n : Nat} {zs : List Int} (h : SlP w 1 (some ⟨b, off, none⟩) n cap (ints zs)) {i : Nat} (hi : i < n) : w.cell? ⟨b, off + i, none⟩ = some (.int .i64 (zs.getD i 0)) := by
  obtain ⟨b', o', e, _, hu⟩ := h.at_ (by omega)
  injection e with e
  injection e with e1 e2 _
  subst e1 e2
  have hl := h.len
  rw [List.length_map, Nat.mul_one] at hl
  refine hu i _ ?_
  rw [List.getElem?_map]
  have : i < zs.length := by omega
  simp [List.getElem?_eq_getElem this]

set_option maxHeartbeats 4000000 in
theorem rask_any (ps vs : List Int) (p q : Option Addr) (cp cq : Nat) (w : World) (hp : SlP w 1 p ps.length cp (ints ps)) (hq : SlP w 1 q vs.length cq (ints vs)) :
    Calls Try.prog 51 #[.slice p ps.length cp, .slice q vs.length cq] w fun e w' => e = .returned (.int .i64 (askE ps vs)) ∧ w = w' := by
  have f1 := hp.fit
  have f2 := hp.max
  have f3 := hq.fit
  have f4 := hq.max
  by_cases h : 2 ≤ ps.length ∧ ps.length ≤ 12
  · have g1 : ¬ (ps.length : Int) < 2 := by omega
    have g2 : ¬ (12 : Int) < ps.length := by omega
    by_cases k : vs.length = ps.length
    · have HB := Lib.hid (fun j hj hb => ask_bad (ps := ps) (vs := vs) h k (j := j) hj hb)
      have HO := Lib.hid (fun hb => ask_ok (ps := ps) (vs := vs) h k hb)
      rw [k] at hq f3 ⊢
      obtain ⟨b, off, rfl, _, _⟩ := hp.at_ (by omega)
      obtain ⟨b', off', rfl, _, _⟩ := hq.at_ (by omega)
      have CP := Lib.hid (fun i hi => int_at hp (i := i) hi)
      have CQ := Lib.hid (fun i hi => int_at hq (i := i) hi)
      generalize askE ps vs = E at *
      generalize hps : (fun i : Nat => ps.getD i 0) = pf at *
      generalize hvs : (fun i : Nat => vs.getD i 0) = vf at *
      have ep : ∀ i : Nat, ps.getD i 0 = pf i := fun i => congrFun hps i
      have ev : ∀ i : Nat, vs.getD i 0 = vf i := fun i => congrFun hvs i
      simp only [ep, ev] at HB HO CP CQ
      clear hp hq k h hps hvs ep ev
      generalize ps.length = n at *
      go_enter Try.func51, Try.ntmps51
      go_wp2_with fail
      go_loopw [5] (fun s5 wr => ∃ k : Nat, k ≤ n ∧ s5 = .int .i64 (k : Int) ∧ Hid (∀ j, j < k → okPV (pf j) (vf j)) ∧ w = wr) (fun s5 _ => n - (intOf s5).toNat)
      case atStart => exact ⟨0, by omega, rfl, Lib.hid (fun j hj => by omega), rfl⟩
      case round =>
        obtain ⟨k, hk, rfl, hall, rfl⟩ := hrel
        by_cases hlt : k < n
        · have hlt' : (k : Int) < n := by omega
          have c0 := CP.out k hlt
          have d0 := CQ.out k hlt
          by_cases hok : okPV (pf k) (vf k)
          · have hall2 := Lib.hid (show ∀ j, j < k + 1 → okPV (pf j) (vf j) from fun j hj => by
              by_cases e : j = k
              · rw [e]; exact hok
              · exact hall.out j (by omega))
            obtain ⟨⟨a1, a2⟩, a3, a4⟩ := hok
            clear hall HB HO CP CQ
            generalize pf k = x at *
            generalize vf k = y at *
            go_wp2_with fail
            go_roundw
            case rel => exact ⟨k + 1, by omega, by go_num, hall2, trivial⟩
            case measure => simp [intOf]; omega
          · have hE := Lib.hid (HB.out k hlt hok)
            unfold okPV at hok
            clear hall HB HO CP CQ
            generalize pf k = x at *
            generalize vf k = y at *
            have ways : x < -4 ∨ (-4 ≤ x ∧ 12 < x) ∨ (-4 ≤ x ∧ x ≤ 12 ∧ y < 1) ∨ (-4 ≤ x ∧ x ≤ 12 ∧ 1 ≤ y ∧ 8 < y) := by omega
            clear hok
            rcases ways with a1 | ⟨a1, a2⟩ | ⟨a1, a2, a3⟩ | ⟨a1, a2, a3, a4⟩
            all_goals
              go_wp2_with fail
              go_ret
              exact ⟨by rw [hE.out]; rfl, rfl⟩
        · have hE := Lib.hid (HO.out (fun j hj => hall.out j (by omega)))
          have hlt' : ¬ (k : Int) < n := by omega
          clear hall HB HO CP CQ
          go_wp2_with fail
          go_ret
          exact ⟨by rw [hE.out]; rfl, rfl⟩
    · rw [ask_form h k]
      have q1 : ((vs.length : Int) == (ps.length : Int)) = false := by simp; omega
      clear hp hq h k
      generalize ps.length = n at *
      generalize vs.length = m at *
      go_enter Try.func51, Try.ntmps51
      go_wp2_with fail
      go_ret
      exact ⟨rfl, rfl⟩
  · rw [ask_full h]
    clear hp hq
    by_cases g1 : (ps.length : Int) < 2
    · clear h
      generalize ps.length = n at *
      go_enter Try.func51, Try.ntmps51
      go_wp2_with fail
      go_ret
      exact ⟨rfl, rfl⟩
    · have g2 : (12 : Int) < ps.length := by omega
      clear h
      generalize ps.length = n at *
      go_enter Try.func51, Try.ntmps51
      go_wp2_with fail
      go_ret
      exact ⟨rfl, rfl⟩

end Go.Proofs.Ytedkcnphplpacaa
