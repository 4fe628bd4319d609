/- The program's checks of clefs and keys, the pitch of a clef, and the lowest place. -/
import Derived.Test.YteomimeagloofaaDoorCTab
import Derived.Test.YteomimeagloofaaDoorKProg
namespace Go.Proofs.YteomimeagloofaaDoor
open Go.RowKit
attribute [local go_sem] Oper.semAt_some

/-- The pitch of the clefs with a step. -/
def clefP (s : Int) : Pi3 := if s = 0 then (0, 4, 0) else if s = 3 then (3, 3, 0) else if s = 4 then (4, 4, 0) else (0, 0, 0)
theorem clefP_ok {s : Int} (h : stepOk s) : okP (clefP s) ∧ numI (clefP s) = 7 * (if s = 3 then 3 else 4) + s := by
  rcases h with rfl | rfl | rfl <;> decide
abbrev cpV (s : Int) : Value := .tuple #[pv (clefP s), .bool (decide (stepOk s))]

theorem cp_index : ∀ w, (Instr.index 70 (.agg #[.int .i64 0, .int .i64 4, .int .i64 0, .int .i64 3, .int .i64 3, .int .i64 0, .int .i64 4, .int .i64 4, .int .i64 0]) (.int .i64 0)).run Tryd.prog w = .ok (.agg #[.int .i64 0, .int .i64 4, .int .i64 0]) w ∧
    (Instr.index 70 (.agg #[.int .i64 0, .int .i64 4, .int .i64 0, .int .i64 3, .int .i64 3, .int .i64 0, .int .i64 4, .int .i64 4, .int .i64 0]) (.int .i64 1)).run Tryd.prog w = .ok (.agg #[.int .i64 3, .int .i64 3, .int .i64 0]) w ∧
    (Instr.index 70 (.agg #[.int .i64 0, .int .i64 4, .int .i64 0, .int .i64 3, .int .i64 3, .int .i64 0, .int .i64 4, .int .i64 4, .int .i64 0]) (.int .i64 2)).run Tryd.prog w = .ok (.agg #[.int .i64 4, .int .i64 4, .int .i64 0]) w := fun _ => ⟨by kernel_rfl, by kernel_rfl, by kernel_rfl⟩

set_option maxHeartbeats 4000000 in
theorem clefp_any (s : Int) (w : World) (T : TabC w) : Calls Tryd.prog 37 #[.int .i64 s] w fun e w' => e = .returned (cpV s) ∧ Below w.heap.size w w' := by
  have T1 := T.al (pO (0, 0, 0))
  have p0 : (w.alloc (pO (0, 0, 0))).cell? ⟨1, 0, none⟩ = some (.int .i64 0) := T1.p 0 (by decide)
  have p1 : (w.alloc (pO (0, 0, 0))).cell? ⟨1, 1, none⟩ = some (.int .i64 4) := T1.p 1 (by decide)
  have p2 : (w.alloc (pO (0, 0, 0))).cell? ⟨1, 2, none⟩ = some (.int .i64 0) := T1.p 2 (by decide)
  have p3 : (w.alloc (pO (0, 0, 0))).cell? ⟨1, 3, none⟩ = some (.int .i64 3) := T1.p 3 (by decide)
  have p4 : (w.alloc (pO (0, 0, 0))).cell? ⟨1, 4, none⟩ = some (.int .i64 3) := T1.p 4 (by decide)
  have p5 : (w.alloc (pO (0, 0, 0))).cell? ⟨1, 5, none⟩ = some (.int .i64 0) := T1.p 5 (by decide)
  have p6 : (w.alloc (pO (0, 0, 0))).cell? ⟨1, 6, none⟩ = some (.int .i64 4) := T1.p 6 (by decide)
  have p7 : (w.alloc (pO (0, 0, 0))).cell? ⟨1, 7, none⟩ = some (.int .i64 4) := T1.p 7 (by decide)
  have p8 : (w.alloc (pO (0, 0, 0))).cell? ⟨1, 8, none⟩ = some (.int .i64 0) := T1.p 8 (by decide)
  have i0 := fun w => (cp_index w).1
  have i1 := fun w => (cp_index w).2.1
  have i2 := fun w => (cp_index w).2.2
  have r0 := Lib.hid (HoldsB.new w 25 #[.int .i64 0, .int .i64 0, .int .i64 0])
  have hB := Lib.hid (w_alloc (w_refl w) (pO (0, 0, 0)))
  have hv := Lib.hid (show ∀ k : Nat, k < 3 → s = (if k = 0 then 0 else if k = 1 then 3 else 4) → Ending.returned (cpV s) = .returned (.tuple #[pv (if k = 0 then (0, 4, 0) else if k = 1 then (3, 3, 0) else (4, 4, 0)), .bool true]) by
    intro k hk e
    have c : k = 0 ∨ k = 1 ∨ k = 2 := by omega
    rcases c with rfl | rfl | rfl <;> (subst e; rfl))
  have hn := Lib.hid (show s ≠ 0 → s ≠ 3 → s ≠ 4 → Ending.returned (cpV s) = .returned (.tuple #[pv (0, 0, 0), .bool false]) by
    intro h1 h2 h3
    have e1 : clefP s = (0, 0, 0) := by unfold clefP; rw [if_neg h1, if_neg h2, if_neg h3]
    have e2 : decide (stepOk s) = false := decide_eq_false (fun h => by rcases h with h | h | h <;> contradiction)
    show Ending.returned (.tuple #[pv (clefP s), .bool (decide (stepOk s))]) = _
    rw [e1, e2])
  generalize cpV s = V at *
  clear T T1
  go_enter Tryd.func37, Tryd.ntmps37
  go_wp2_with fail
  clear p0 p1 p2 p3 p4 p5 p6 p7 p8
  go_loopw [7] (fun i wr => ∃ k : Nat, k ≤ 3 ∧ i = .int .i64 (k : Int) ∧ Hid ((1 ≤ k → s ≠ 0) ∧ (2 ≤ k → s ≠ 3) ∧ (3 ≤ k → s ≠ 4)) ∧ Hid (HoldsB wr w.heap.size 25 #[.int .i64 0, .int .i64 0, .int .i64 0]) ∧ Hid (Below w.heap.size w wr)) (fun i _ => (3 - intOf i).toNat)
  case atStart => exact ⟨0, by omega, rfl, Lib.hid ⟨by omega, by omega, by omega⟩, r0, hB⟩
  case round =>
    clear r0 hB
    obtain ⟨k, hk, rfl, hs, r0, hB⟩ := hrel
    have c : k = 0 ∨ k = 1 ∨ k = 2 ∨ k = 3 := by omega
    clear hk
    rcases c with rfl | rfl | rfl | rfl
    · by_cases h : (0 : Int) = s
      · have hr := hv.out 0 (by decide) h.symm
        simp only [if_true] at hr
        have r1 := Lib.hid (r0.out.al (pO (0, 4, 0)))
        have ff := r1.out.frozen
        have e0 := r1.out.cell (j := 0) rfl
        have e1 := r1.out.cell (j := 1) rfl
        have e2 := r1.out.cell (j := 2) rfl
        obtain ⟨d0, d1, d2⟩ := pit_put r1.out (.int .i64 0) (.int .i64 4) (.int .i64 0)
        have HR := Lib.hid hr
        clear hr hv hn hs
        subst h
        go_wp2_with fail
        refine bodyPost_ret (v := .tuple #[pv (0, 4, 0), .bool true]) (by simp [results, Tryd.results37, go_sem, d0, d1, d2]) rfl ⟨HR.out.symm, ?_⟩
        exact w_put (w_put (w_put (w_alloc hB.out _) (by omega) _ _) (by omega) _ _) (by omega) _ _
      · have hne : ((0 : Int) == s) = false := by simp [h]
        have hs2 := Lib.hid (show (1 ≤ 1 → s ≠ 0) ∧ (2 ≤ 1 → s ≠ 3) ∧ (3 ≤ 1 → s ≠ 4) from ⟨fun _ e => h e.symm, by omega, by omega⟩)
        have r1 := Lib.hid (r0.out.al (pO (0, 4, 0)))
        have hB1 := Lib.hid (w_alloc hB.out (pO (0, 4, 0)))
        clear hs hv hn h r0 hB
        go_wp2_with fail
        go_roundw
        case rel => exact ⟨1, by omega, rfl, hs2, r1, hB1⟩
        case measure => simp [intOf]
    · by_cases h : (3 : Int) = s
      · have hr := hv.out 1 (by decide) h.symm
        simp only [if_true, if_false, show ¬ (1 : Nat) = 0 by decide] at hr
        have r1 := Lib.hid (r0.out.al (pO (3, 3, 0)))
        have ff := r1.out.frozen
        have e0 := r1.out.cell (j := 0) rfl
        have e1 := r1.out.cell (j := 1) rfl
        have e2 := r1.out.cell (j := 2) rfl
        obtain ⟨d0, d1, d2⟩ := pit_put r1.out (.int .i64 3) (.int .i64 3) (.int .i64 0)
        have HR := Lib.hid hr
        clear hr hv hn hs
        subst h
        go_wp2_with fail
        refine bodyPost_ret (v := .tuple #[pv (3, 3, 0), .bool true]) (by simp [results, Tryd.results37, go_sem, d0, d1, d2]) rfl ⟨HR.out.symm, ?_⟩
        exact w_put (w_put (w_put (w_alloc hB.out _) (by omega) _ _) (by omega) _ _) (by omega) _ _
      · have hne : ((3 : Int) == s) = false := by simp [h]
        have hs2 := Lib.hid (show (1 ≤ 2 → s ≠ 0) ∧ (2 ≤ 2 → s ≠ 3) ∧ (3 ≤ 2 → s ≠ 4) from ⟨fun _ => hs.out.1 (by decide), fun _ e => h e.symm, by omega⟩)
        have r1 := Lib.hid (r0.out.al (pO (3, 3, 0)))
        have hB1 := Lib.hid (w_alloc hB.out (pO (3, 3, 0)))
        clear hs hv hn h r0 hB
        go_wp2_with fail
        go_roundw
        case rel => exact ⟨2, by omega, rfl, hs2, r1, hB1⟩
        case measure => simp [intOf]
    · by_cases h : (4 : Int) = s
      · have hr := hv.out 2 (by decide) h.symm
        simp only [if_false, show ¬ (2 : Nat) = 0 by decide, show ¬ (2 : Nat) = 1 by decide] at hr
        have r1 := Lib.hid (r0.out.al (pO (4, 4, 0)))
        have ff := r1.out.frozen
        have e0 := r1.out.cell (j := 0) rfl
        have e1 := r1.out.cell (j := 1) rfl
        have e2 := r1.out.cell (j := 2) rfl
        obtain ⟨d0, d1, d2⟩ := pit_put r1.out (.int .i64 4) (.int .i64 4) (.int .i64 0)
        have HR := Lib.hid hr
        clear hr hv hn hs
        subst h
        go_wp2_with fail
        refine bodyPost_ret (v := .tuple #[pv (4, 4, 0), .bool true]) (by simp [results, Tryd.results37, go_sem, d0, d1, d2]) rfl ⟨HR.out.symm, ?_⟩
        exact w_put (w_put (w_put (w_alloc hB.out _) (by omega) _ _) (by omega) _ _) (by omega) _ _
      · have hne : ((4 : Int) == s) = false := by simp [h]
        have hs2 := Lib.hid (show (1 ≤ 3 → s ≠ 0) ∧ (2 ≤ 3 → s ≠ 3) ∧ (3 ≤ 3 → s ≠ 4) from ⟨fun _ => hs.out.1 (by decide), fun _ => hs.out.2.1 (by decide), fun _ e => h e.symm⟩)
        have r1 := Lib.hid (r0.out.al (pO (4, 4, 0)))
        have hB1 := Lib.hid (w_alloc hB.out (pO (4, 4, 0)))
        clear hs hv hn h r0 hB
        go_wp2_with fail
        go_roundw
        case rel => exact ⟨3, by omega, rfl, hs2, r1, hB1⟩
        case measure => simp [intOf]
    · have HR := Lib.hid (hn.out (hs.out.1 (by decide)) (hs.out.2.1 (by decide)) (hs.out.2.2 (by decide)))
      have ff := r0.out.frozen
      have e0 := r0.out.cell (j := 0) rfl
      have e1 := r0.out.cell (j := 1) rfl
      have e2 := r0.out.cell (j := 2) rfl
      obtain ⟨d0, d1, d2⟩ := pit_put r0.out (.int .i64 0) (.int .i64 0) (.int .i64 0)
      clear hv hn hs
      go_wp2_with fail
      refine bodyPost_ret (v := .tuple #[pv (0, 0, 0), .bool false]) (by simp [results, Tryd.results37, go_sem, d0, d1, d2]) rfl ⟨HR.out.symm, ?_⟩
      exact w_put (w_put (w_put hB.out (by omega) _ _) (by omega) _ _) (by omega) _ _

end Go.Proofs.YteomimeagloofaaDoor
