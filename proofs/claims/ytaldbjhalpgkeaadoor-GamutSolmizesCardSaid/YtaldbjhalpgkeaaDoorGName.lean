/- The program's letter and Name. -/
import Derived.Test.YtaldbjhalpgkeaaDoorGFence
import Derived.Test.YtaldbjhalpgkeaaDoorGIsIn
import Derived.Test.YtaldbjhalpgkeaaDoorShelf
namespace Go.Proofs.YtaldbjhalpgkeaaDoor
open Go.RowKit Go.Shelf
attribute [local go_sem] Oper.semAt_some

theorem wletlow_any (n : Int) (h : 0 ≤ n ∧ n ≤ 14) (w : World) : Calls Tryd.prog 51 #[.int .i64 n] w fun e w' => e = .returned (.string (letB n)) ∧ Below w.heap.size w w' := by
  have c : n = 0 ∨ n = 1 ∨ n = 2 ∨ n = 3 ∨ n = 4 ∨ n = 5 ∨ n = 6 ∨ n = 7 ∨ n = 8 ∨ n = 9 ∨ n = 10 ∨ n = 11 ∨ n = 12 ∨ n = 13 ∨ n = 14 := by omega
  clear h
  rcases c with rfl | rfl | rfl | rfl | rfl | rfl | rfl | rfl | rfl | rfl | rfl | rfl | rfl | rfl | rfl
  all_goals
    go_enter Tryd.func51, Tryd.ntmps51
    go_wp2_with fail
    go_ret
    exact ⟨by kernel_rfl, w_refl w⟩

theorem let_twice : ∀ i : Fin 5, (⟨(Lib.repeatL (letB (i.val + 8)).data.toList 2).toArray⟩ : ByteArray) = letB (i.val + 15) ∧ (letB (i.val + 8)).size * 2 ≤ 140737488355328 := by decide +kernel

set_option maxHeartbeats 1000000 in
theorem wletter_any (n : Int) (h : 0 ≤ n ∧ n ≤ 19) (w : World) : Calls Tryd.prog 51 #[.int .i64 n] w fun e w' => e = .returned (.string (letB n)) ∧ Below w.heap.size w w' := by
  by_cases hl : n ≤ 14
  · exact wletlow_any n ⟨h.1, hl⟩ w
  · obtain ⟨i, hi⟩ : ∃ i : Fin 5, n = i.val + 15 := ⟨⟨(n - 15).toNat, by omega⟩, by simp only; omega⟩
    obtain ⟨t1, t2⟩ := let_twice i
    have e8 : (i.val : Int) + 8 = n - 7 := by omega
    rw [e8] at t1 t2
    rw [← hi] at t1
    have L := Lib.hid (fun W => wletlow_any (n - 7) ⟨by omega, by omega⟩ W)
    have R := Lib.hid (fun W => Tryd.strings_Repeat (letB (n - 7)) 2 W (by decide) t2)
    rw [t1] at R
    have x1 : IntKind.i64.wrap (n - 7) = n - 7 := IntWalk.i64_in _ (by omega)
    have h0 : (n == 0) = false := by
      have : ¬ n = 0 := by omega
      simp [this]
    clear t1 t2 e8 hi h
    generalize letB (n - 7) = a at *
    go_enter Tryd.func51, Tryd.ntmps51
    go_wp2_with fail
    refine (L.out _).mono ?_
    rintro e w1 ⟨rfl, hb⟩
    have B1 := Lib.hid hb
    clear hb L
    go_wp2_with fail
    refine (R.out _).mono ?_
    rintro e w2 ⟨rfl, hb⟩
    have B2 := Lib.hid (w_below B1.out hb)
    clear hb R B1
    go_wp2_with fail
    go_ret
    exact ⟨rfl, B2.out⟩

/-- The parts of a place's name, behind some of its ways; and the pitch that came last. -/
def nmStep (n : Int) (st : List ByteArray × Pi3) (s : Sy) : List ByteArray × Pi3 := ((st.1 ++ (if st.1.length = 0 ∨ madeS s ≠ st.2 then [letB n] else [])) ++ [wordB s.2], madeS s)
def nmAll (n : Int) (pre : List Sy) : List ByteArray × Pi3 := pre.foldl (nmStep n) ([], (0, 0, 0))
theorem nm_snoc (n : Int) (pre : List Sy) (s : Sy) : nmAll n (pre ++ [s]) = nmStep n (nmAll n pre) s := by
  unfold nmAll; rw [List.foldl_append]; rfl
theorem nm_len (n : Int) : ∀ pre : List Sy, (pre.foldl (nmStep n) ([], (0, 0, 0))).1.length ≤ 2 * pre.length := by
  intro pre
  have gen : ∀ (pre : List Sy) (st : List ByteArray × Pi3), (pre.foldl (nmStep n) st).1.length ≤ st.1.length + 2 * pre.length := by
    intro pre
    induction pre with
    | nil => intro st; simp
    | cons a t ih =>
      intro st
      have h := ih (nmStep n st a)
      have h2 : (nmStep n st a).1.length ≤ st.1.length + 2 := by
        unfold nmStep
        simp only [List.length_append, List.length_cons, List.length_nil]
        split <;> simp <;> omega
      simp only [List.foldl_cons, List.length_cons]
      omega
  have := gen pre ([], (0, 0, 0))
  simpa using this
theorem nm_fin : ∀ i : Fin 20, (⟨(Lib.join ((nmAll i.val (waysAtL i.val)).1.map (·.data.toList)) [32]).toArray⟩ : ByteArray) = (nameAt i.val 7).1 ∧ 0 < (nmAll i.val (waysAtL i.val)).1.length ∧ (Lib.join ((nmAll i.val (waysAtL i.val)).1.map (·.data.toList)) [32]).length ≤ 1000 ∧ (nmAll i.val (waysAtL i.val)).1.length ≤ 100 := by decide +kernel

end Go.Proofs.YtaldbjhalpgkeaaDoor
