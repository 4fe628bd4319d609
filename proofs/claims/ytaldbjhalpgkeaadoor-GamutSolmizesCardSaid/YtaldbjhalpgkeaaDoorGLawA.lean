/- What the statements of stage 4 do by themselves: equal lists, single ways and pitches, counts of moves. -/
import Derived.Test.YtaldbjhalpgkeaaDoorGMut
namespace Go.Proofs.YtaldbjhalpgkeaaDoor
open Go.RowKit

/-- Two lists that are equal. -/
theorem sames_any (p q : Option Addr) (cp cq : Nat) (l : List Sy) (w : World) (hp : SlP w 2 p l.length cp (flatS l)) (hq : SlP w 2 q l.length cq (flatS l)) :
    Calls Tryd.prog 15 #[.slice p l.length cp, .slice q l.length cq] w fun e w' => e = .returned (.bool true) ∧ Below w.heap.size w w' := by
  have f1 := hp.fit
  have f2 := hq.fit
  have m1 := hp.max
  have m2 := hq.max
  have HP := Lib.hid hp
  have HQ := Lib.hid hq
  clear hp hq
  go_enter Tryd.func15, Tryd.ntmps15
  go_wp2_with fail
  go_loopw [5] (fun i wr => ∃ k : Nat, k ≤ l.length ∧ i = .int .i64 k ∧ Hid (Below w.heap.size w wr)) (fun i _ => l.length - (intOf i).toNat)
  case atStart => exact ⟨0, by omega, rfl, Lib.hid (w_refl w)⟩
  case round =>
    obtain ⟨k, hk, rfl, hb⟩ := hrel
    by_cases hlt : k < l.length
    · have hlt' : (k : Int) < l.length := by omega
      obtain ⟨s, hs⟩ : ∃ s, l[k]? = some s := ⟨l[k], List.getElem?_eq_getElem hlt⟩
      obtain ⟨b, off, rfl, _, c0, c1⟩ := (HP.out.later hb.out).way hs
      obtain ⟨b', off', rfl, _, d0, d1⟩ := (HQ.out.later hb.out).way hs
      have hb9 := Lib.hid hb.out.drew
      clear hs
      go_wp2_with fail
      go_region
      all_goals
        go_wp2_with fail
        go_roundw
        case rel => exact ⟨k + 1, by omega, by go_num, hb9⟩
        case measure => simp [intOf]; omega
    · obtain rfl : k = l.length := by omega
      go_wp2_with fail
      go_ret
      exact ⟨rfl, hb.out⟩

theorem samei_any (p q : Option Addr) (cp cq : Nat) (l : List Int) (w : World) (hp : SlP w 1 p l.length cp (ints l)) (hq : SlP w 1 q l.length cq (ints l)) :
    Calls Tryd.prog 27 #[.slice p l.length cp, .slice q l.length cq] w fun e w' => e = .returned (.bool true) ∧ Below w.heap.size w w' := by
  have f1 := hp.fit
  have f2 := hq.fit
  have m1 := hp.max
  have m2 := hq.max
  have HP := Lib.hid hp
  have HQ := Lib.hid hq
  clear hp hq
  go_enter Tryd.func27, Tryd.ntmps27
  go_wp2_with fail
  go_loopw [5] (fun i wr => ∃ k : Nat, k ≤ l.length ∧ i = .int .i64 k ∧ Hid (Below w.heap.size w wr)) (fun i _ => l.length - (intOf i).toNat)
  case atStart => exact ⟨0, by omega, rfl, Lib.hid (w_refl w)⟩
  case round =>
    obtain ⟨k, hk, rfl, hb⟩ := hrel
    by_cases hlt : k < l.length
    · have hlt' : (k : Int) < l.length := by omega
      obtain ⟨s, hs⟩ : ∃ s, (ints l)[k]? = some (.int .i64 s) := ⟨l[k], by rw [List.getElem?_map, List.getElem?_eq_getElem hlt]; rfl⟩
      obtain ⟨b, off, rfl, _, hc⟩ := (HP.out.later hb.out).at_ (by omega)
      obtain ⟨b', off', rfl, _, hd⟩ := (HQ.out.later hb.out).at_ (by omega)
      have c0 := hc _ _ hs
      have d0 := hd _ _ hs
      have hb9 := Lib.hid hb.out.drew
      clear hs hc hd
      go_wp2_with fail
      go_region
      all_goals
        go_wp2_with fail
        go_roundw
        case rel => exact ⟨k + 1, by omega, by go_num, hb9⟩
        case measure => simp [intOf]; omega
    · obtain rfl : k = l.length := by omega
      go_wp2_with fail
      go_ret
      exact ⟨rfl, hb.out⟩

theorem sameb_any (p q : Option Addr) (cp cq : Nat) (l : List Bool) (w : World) (hp : SlP w 1 p l.length cp (bools l)) (hq : SlP w 1 q l.length cq (bools l)) :
    Calls Tryd.prog 28 #[.slice p l.length cp, .slice q l.length cq] w fun e w' => e = .returned (.bool true) ∧ Below w.heap.size w w' := by
  have f1 := hp.fit
  have f2 := hq.fit
  have m1 := hp.max
  have m2 := hq.max
  have HP := Lib.hid hp
  have HQ := Lib.hid hq
  clear hp hq
  go_enter Tryd.func28, Tryd.ntmps28
  go_wp2_with fail
  go_loopw [5] (fun i wr => ∃ k : Nat, k ≤ l.length ∧ i = .int .i64 k ∧ Hid (Below w.heap.size w wr)) (fun i _ => l.length - (intOf i).toNat)
  case atStart => exact ⟨0, by omega, rfl, Lib.hid (w_refl w)⟩
  case round =>
    obtain ⟨k, hk, rfl, hb⟩ := hrel
    by_cases hlt : k < l.length
    · have hlt' : (k : Int) < l.length := by omega
      obtain ⟨s, hs⟩ : ∃ s, (bools l)[k]? = some (.bool s) := ⟨l[k], by rw [List.getElem?_map, List.getElem?_eq_getElem hlt]; rfl⟩
      obtain ⟨b, off, rfl, _, hc⟩ := (HP.out.later hb.out).at_ (by omega)
      obtain ⟨b', off', rfl, _, hd⟩ := (HQ.out.later hb.out).at_ (by omega)
      have c0 := hc _ _ hs
      have d0 := hd _ _ hs
      have hb9 := Lib.hid hb.out.drew
      clear hs hc hd
      go_wp2_with fail
      go_region
      all_goals
        go_wp2_with fail
        go_roundw
        case rel => exact ⟨k + 1, by omega, by go_num, hb9⟩
        case measure => simp [intOf]; omega
    · obtain rfl : k = l.length := by omega
      go_wp2_with fail
      go_ret
      exact ⟨rfl, hb.out⟩

theorem syl_any (h s : Int) (w : World) : Calls Tryd.prog 32 #[.int .i64 h, .int .i64 s] w fun e w' => e = .returned (sv (h, s)) ∧ Below w.heap.size w w' := by
  go_enter Tryd.func32, Tryd.ntmps32
  go_wp2_with fail
  refine bodyPost_ret (v := sv (h, s)) (by simp [results, Tryd.results32, go_sem]) rfl ⟨rfl, ?_⟩
  exact w_alloc (w_refl w) _

/-- The pitch of a place without an Alter. -/
def natP (n : Int) : Pi3 := ((n + 18) % 7, (n + 18) / 7, 0)
theorem natural_any (n : Int) (hn : 0 ≤ n ∧ n ≤ 100) (w : World) : Calls Tryd.prog 31 #[.int .i64 n] w fun e w' => e = .returned (pv (natP n)) ∧ Below w.heap.size w w' := by
  show Calls _ _ _ _ fun e w' => e = .returned (pv ((n + 18) % 7, (n + 18) / 7, 0)) ∧ _
  obtain ⟨m, hm⟩ : ∃ m, n + 18 = m := ⟨_, rfl⟩
  rw [hm]
  have x1 : IntKind.i64.wrap (n + 18) = m := by rw [IntWalk.i64_in _ (by omega)]; exact hm
  have t1 : m.tmod 7 = m % 7 := Int.tmod_eq_emod_of_nonneg (by omega)
  have t2 : m.tdiv 7 = m / 7 := Int.tdiv_eq_ediv_of_nonneg (by omega)
  have x4 : IntKind.i64.wrap (m / 7) = m / 7 := IntWalk.i64_in _ (by omega)
  have x5 : IntKind.i64.wrap (m % 7) = m % 7 := IntWalk.i64_in _ (by omega)
  clear hm hn
  go_enter Tryd.func31, Tryd.ntmps31
  go_wp2_with fail
  refine bodyPost_ret (v := pv (m % 7, m / 7, 0)) (by simp [results, Tryd.results31, go_sem]) rfl ⟨rfl, ?_⟩
  exact w_alloc (w_refl w) _

set_option maxHeartbeats 2000000 in
theorem lmoves_any (p : Option Addr) (cap : Nat) (l : List Sy) (w : World) (h : SlP w 2 p l.length cap (flatS l)) : Calls Tryd.prog 37 #[.slice p l.length cap] w fun e w' => e = .returned (.int .i64 (movesL l)) ∧ Below w.heap.size w w' := by
  have HS := Lib.hid h
  have f1 := h.fit
  have f2 := h.max
  clear h
  go_enter Tryd.func37, Tryd.ntmps37
  go_wp2_with fail
  go_loopw [3, 4] (fun n i wr => ∃ k : Nat, (k + 1 ≤ l.length ∨ k = 0) ∧ i = .int .i64 ((k : Int) + 1) ∧ n = .int .i64 (movesL (l.take (k + 1))) ∧ Hid (Below w.heap.size w wr)) (fun _ i _ => l.length - (intOf i).toNat)
  case atStart =>
    refine ⟨0, .inr rfl, rfl, ?_, Lib.hid (w_refl w)⟩
    cases l <;> rfl
  case round =>
    obtain ⟨k, hk, rfl, rfl, hb⟩ := hrel
    by_cases hlt : k + 1 < l.length
    · have hlt' : (k : Int) + 1 < l.length := by omega
      have hlt2 : k < l.length := by omega
      have hlt3 : (k : Int) < l.length := by omega
      obtain ⟨a, ha⟩ : ∃ a, l[k]? = some a := ⟨l[k], List.getElem?_eq_getElem hlt2⟩
      obtain ⟨b, hb'⟩ : ∃ b, l[k + 1]? = some b := ⟨l[k + 1], List.getElem?_eq_getElem hlt⟩
      have hm := Lib.hid (moves_take ha hb')
      have hml := moves_len (l.take (k + 1))
      rw [List.length_take] at hml
      obtain ⟨bl, off, rfl, hbl, c0, c1⟩ := (HS.out.later hb.out).way ha
      obtain ⟨bl2, off2, e2, _, d0, d1⟩ := (HS.out.later hb.out).way hb'
      simp only [Option.some.injEq, Addr.mk.injEq, and_true] at e2
      obtain ⟨rfl, rfl⟩ := e2
      have x1 : IntKind.i64.wrap ((k : Int) + 1 - 1) = k := by rw [IntWalk.i64_in _ (by omega)]; omega
      have x2 : IntKind.i64.wrap ((k : Int) + 1 + 1) = (k : Int) + 1 + 1 := IntWalk.i64_in _ (by omega)
      clear c1 d1
      generalize movesL (l.take (k + 1)) = n at *
      have x3 : IntKind.i64.wrap ((n : Int) + 1) = (n : Int) + 1 := IntWalk.i64_in _ (by omega)
      have hb9 := Lib.hid (hb.out.drew)
      by_cases e : a.1 = b.1
      · rw [if_pos e] at hm
        rw [e] at c0
        clear e ha hb'
        go_wp2_with fail
        go_region
        all_goals
          go_wp2_with fail
          go_roundw
          case rel => exact ⟨k + 1, .inl (by omega), by go_num, by rw [hm.out]; rfl, hb9⟩
          case measure => simp [intOf]; omega
      · rw [if_neg e] at hm
        have e2 : ¬ b.1 = a.1 := fun x => e x.symm
        have e3 : (b.1 == a.1) = false := by simp [e2]
        clear ha hb'
        go_wp2_with fail
        go_region
        all_goals
          go_wp2_with fail
          go_roundw
          case rel => exact ⟨k + 1, .inl (by omega), by go_num, by rw [hm.out]; go_num, hb9⟩
          case measure => simp [intOf]; omega
    · have hlt' : ¬ ((k : Int) + 1 < l.length) := by omega
      have ht := Lib.hid (show l.take (k + 1) = l from List.take_of_length_le (by omega))
      go_wp2_with fail
      go_ret
      exact ⟨by rw [ht.out]; rfl, hb.out⟩

end Go.Proofs.YtaldbjhalpgkeaaDoor
