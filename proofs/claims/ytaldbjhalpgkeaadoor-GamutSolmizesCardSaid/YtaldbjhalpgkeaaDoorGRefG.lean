/- The reference: the number of mutations. -/
import Derived.Test.YtaldbjhalpgkeaaDoorGRefF
namespace Go.Proofs.YtaldbjhalpgkeaaDoor
open Go.RowKit

theorem take_two {α : Type} {l : List α} {i : Nat} {a b : α} (h1 : l[i]? = some a) (h2 : l[i + 1]? = some b) : l.take (i + 1) = l.take i ++ [a] ∧ l.take (i + 1 + 1) = l.take i ++ [a, b] := by
  have e1 : l.take (i + 1) = l.take i ++ [a] := by rw [List.take_add_one, h1]; rfl
  refine ⟨e1, ?_⟩
  rw [List.take_add_one, h2, e1]; simp
theorem moves_take {l : List Sy} {i : Nat} {a b : Sy} (h1 : l[i]? = some a) (h2 : l[i + 1]? = some b) : movesL (l.take (i + 1 + 1)) = movesL (l.take (i + 1)) + (if a.1 = b.1 then 0 else 1) := by
  obtain ⟨e1, e2⟩ := take_two h1 h2
  rw [e1, e2, moves_app]
  show _ + _ + 0 = _; omega
theorem moves_len : ∀ l : List Sy, movesL l ≤ l.length
  | [] => by simp [movesL]
  | [_] => by simp [movesL]
  | a :: b :: t => by
    have := moves_len (b :: t)
    show (if a.1 = b.1 then 0 else 1) + movesL (b :: t) ≤ (b :: t).length + 1
    split <;> omega

set_option maxHeartbeats 2000000 in
theorem rmoves_any (p : Option Addr) (cap : Nat) (l : List Sy) (w : World) (h : SlP w 2 p l.length cap (flatS l)) : Calls Tryd.prog 72 #[.slice p l.length cap] w fun e w' => e = .returned (.int .i64 (movesL l)) ∧ Below w.heap.size w w' := by
  have HS := Lib.hid h
  have f1 := h.fit
  have f2 := h.max
  clear h
  go_enter Tryd.func72, Tryd.ntmps72
  go_wp2_with fail
  go_loopw [3, 4] (fun n i wr => ∃ k : Nat, (k + 1 ≤ l.length ∨ k = 0) ∧ i = .int .i64 ((k : Int) + 1) ∧ n = .int .i64 (movesL (l.take (k + 1))) ∧ Hid (Below w.heap.size w wr)) (fun _ i _ => l.length - (intOf i).toNat)
  case atStart =>
    refine ⟨0, .inr rfl, rfl, ?_, Lib.hid (w_refl w)⟩
    cases l <;> rfl
  case round =>
    obtain ⟨k, hk, rfl, rfl, hb⟩ := hrel
    by_cases hlt : k + 1 < l.length
    · have hlt' : (k : Int) + 1 < l.length := by omega
      have hlt2 : k < l.length := by omega
      have hlt3 : (k : Int) < l.length := by omega
      obtain ⟨a, ha⟩ : ∃ a, l[k]? = some a := ⟨l[k], List.getElem?_eq_getElem hlt2⟩
      obtain ⟨b, hb'⟩ : ∃ b, l[k + 1]? = some b := ⟨l[k + 1], List.getElem?_eq_getElem hlt⟩
      have hm := Lib.hid (moves_take ha hb')
      have hml := moves_len (l.take (k + 1))
      rw [List.length_take] at hml
      obtain ⟨bl, off, rfl, hbl, c0, c1⟩ := (HS.out.later hb.out).way ha
      obtain ⟨bl2, off2, e2, _, d0, d1⟩ := (HS.out.later hb.out).way hb'
      simp only [Option.some.injEq, Addr.mk.injEq, and_true] at e2
      obtain ⟨rfl, rfl⟩ := e2
      have x1 : IntKind.i64.wrap ((k : Int) + 1 - 1) = k := by rw [IntWalk.i64_in _ (by omega)]; omega
      have x2 : IntKind.i64.wrap ((k : Int) + 1 + 1) = (k : Int) + 1 + 1 := IntWalk.i64_in _ (by omega)
      clear c1 d1
      generalize movesL (l.take (k + 1)) = n at *
      have x3 : IntKind.i64.wrap ((n : Int) + 1) = (n : Int) + 1 := IntWalk.i64_in _ (by omega)
      have hb9 := Lib.hid (hb.out.drew)
      by_cases e : a.1 = b.1
      · rw [if_pos e] at hm
        rw [e] at c0
        clear e ha hb'
        go_wp2_with fail
        go_region
        all_goals
          go_wp2_with fail
          go_roundw
          case rel => exact ⟨k + 1, .inl (by omega), by go_num, by rw [hm.out]; rfl, hb9⟩
          case measure => simp [intOf]; omega
      · rw [if_neg e] at hm
        have e2 : ¬ b.1 = a.1 := fun x => e x.symm
        have e3 : (b.1 == a.1) = false := by simp [e2]
        clear ha hb'
        go_wp2_with fail
        go_region
        all_goals
          go_wp2_with fail
          go_roundw
          case rel => exact ⟨k + 1, .inl (by omega), by go_num, by rw [hm.out]; go_num, hb9⟩
          case measure => simp [intOf]; omega
    · have hlt' : ¬ ((k : Int) + 1 < l.length) := by omega
      have ht := Lib.hid (show l.take (k + 1) = l from List.take_of_length_le (by omega))
      go_wp2_with fail
      go_ret
      exact ⟨by rw [ht.out]; rfl, hb.out⟩

end Go.Proofs.YtaldbjhalpgkeaaDoor
