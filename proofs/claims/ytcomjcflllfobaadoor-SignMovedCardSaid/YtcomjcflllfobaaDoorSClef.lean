/- The check of a clef, the program's. -/
import Derived.Test.YtcomjcflllfobaaDoorSMem
namespace Go.Proofs.YtcomjcflllfobaaDoor
open Go.RowKit

abbrev pO (p : Pi3) : Obj := .cells #[.int .i64 p.1, .int .i64 p.2.1, .int .i64 p.2.2] 101
abbrev Cl := Int × Int
abbrev cv (c : Cl) : Value := .agg #[.int .i64 c.1, .int .i64 c.2]
def stepOk (s : Int) : Prop := s = 0 ∨ s = 3 ∨ s = 4
instance (s : Int) : Decidable (stepOk s) := by unfold stepOk; infer_instance
def okC (c : Cl) : Prop := stepOk c.1 ∧ 1 ≤ c.2 ∧ c.2 ≤ 5
instance (c : Cl) : Decidable (okC c) := by unfold okC; infer_instance
def chkC (c : Cl) : Int := if stepOk c.1 then (if 1 ≤ c.2 ∧ c.2 ≤ 5 then 0 else 2) else 8
theorem chkC_ok {c : Cl} (h : okC c) : chkC c = 0 := by unfold chkC; rw [if_pos h.1, if_pos h.2]
theorem chkC_step {c : Cl} (h : ¬ stepOk c.1) : chkC c = 8 := if_neg h
theorem chkC_line {c : Cl} (h : stepOk c.1) (k : ¬ (1 ≤ c.2 ∧ c.2 ≤ 5)) : chkC c = 2 := by unfold chkC; rw [if_pos h, if_neg k]
theorem chkC_zero {c : Cl} (h : chkC c = 0) : okC c := by
  unfold chkC at h
  split at h
  · split at h
    · exact ⟨‹_›, ‹_›⟩
    · cases h
  · cases h

structure Two2 (w : World) (b : Nat) (c : Cl) : Prop where
  inb : b < w.heap.size
  c0 : w.cell? ⟨b, 0, none⟩ = some (.int .i64 c.1)
  c1 : w.cell? ⟨b, 1, none⟩ = some (.int .i64 c.2)
  f0 : w.frozen? ⟨b, 0, none⟩ = false
  f1 : w.frozen? ⟨b, 1, none⟩ = false
theorem Two2.made (w : World) (c : Cl) (t : TypeId) : Two2 (w.alloc (.cells #[.int .i64 c.1, .int .i64 c.2] t)) w.heap.size c := ⟨by simp, by go_simp, by go_simp, by go_simp, by go_simp⟩
theorem Two2.later {w w1 : World} {b : Nat} {c : Cl} (h : Two2 w b c) (k : Below w.heap.size w w1) : Two2 w1 b c :=
  ⟨Nat.lt_of_lt_of_le h.inb k.size, (k.cell (p := ⟨b, 0, none⟩) h.inb).trans h.c0, (k.cell (p := ⟨b, 1, none⟩) h.inb).trans h.c1,
    (k.frozen (p := ⟨b, 0, none⟩) h.inb).trans h.f0, (k.frozen (p := ⟨b, 1, none⟩) h.inb).trans h.f1⟩
abbrev cO (c : Cl) : Obj := .cells #[.int .i64 c.1, .int .i64 c.2] 25

theorem pit_put {w1 : World} {b : Nat} {t : TypeId} {x0 x1 x2 : Value} (h : HoldsB w1 b t #[x0, x1, x2]) (A B C : Value) :
    (w1.setCell ⟨b, 0, none⟩ A).cell? ⟨b, 0, none⟩ = some A ∧ ((w1.setCell ⟨b, 0, none⟩ A).setCell ⟨b, 1, none⟩ B).cell? ⟨b, 1, none⟩ = some B ∧
    (((w1.setCell ⟨b, 0, none⟩ A).setCell ⟨b, 1, none⟩ B).setCell ⟨b, 2, none⟩ C).cell? ⟨b, 2, none⟩ = some C := by
  have h0 := h.set 0 A
  have h1 := h0.set 1 B
  have h2 := h1.set 2 C
  exact ⟨h0.cell rfl, h1.cell rfl, h2.cell rfl⟩

attribute [local go_sem] Oper.semAt_some

/-- The pitch of the clefs with a step. -/
def clefP (s : Int) : Pi3 := if s = 0 then (0, 4, 0) else if s = 3 then (3, 3, 0) else if s = 4 then (4, 4, 0) else (0, 0, 0)
abbrev cpV (s : Int) : Value := .tuple #[pv (clefP s), .bool (decide (stepOk s))]

theorem cp_index : ∀ w, (Instr.index 104 (.agg #[.int .i64 0, .int .i64 4, .int .i64 0, .int .i64 3, .int .i64 3, .int .i64 0, .int .i64 4, .int .i64 4, .int .i64 0]) (.int .i64 0)).run Tryd.prog w = .ok (.agg #[.int .i64 0, .int .i64 4, .int .i64 0]) w ∧
    (Instr.index 104 (.agg #[.int .i64 0, .int .i64 4, .int .i64 0, .int .i64 3, .int .i64 3, .int .i64 0, .int .i64 4, .int .i64 4, .int .i64 0]) (.int .i64 1)).run Tryd.prog w = .ok (.agg #[.int .i64 3, .int .i64 3, .int .i64 0]) w ∧
    (Instr.index 104 (.agg #[.int .i64 0, .int .i64 4, .int .i64 0, .int .i64 3, .int .i64 3, .int .i64 0, .int .i64 4, .int .i64 4, .int .i64 0]) (.int .i64 2)).run Tryd.prog w = .ok (.agg #[.int .i64 4, .int .i64 4, .int .i64 0]) w := fun _ => ⟨by kernel_rfl, by kernel_rfl, by kernel_rfl⟩

set_option maxHeartbeats 4000000 in
theorem clefp_any (s : Int) (w : World) (T : TabS w) : Calls Tryd.prog 85 #[.int .i64 s] w fun e w' => e = .returned (cpV s) ∧ Below w.heap.size w w' := by
  have T1 := T.al (pO (0, 0, 0))
  have p0 : (w.alloc (pO (0, 0, 0))).cell? ⟨1, 0, none⟩ = some (.int .i64 0) := T1.p 0 (by decide)
  have p1 : (w.alloc (pO (0, 0, 0))).cell? ⟨1, 1, none⟩ = some (.int .i64 4) := T1.p 1 (by decide)
  have p2 : (w.alloc (pO (0, 0, 0))).cell? ⟨1, 2, none⟩ = some (.int .i64 0) := T1.p 2 (by decide)
  have p3 : (w.alloc (pO (0, 0, 0))).cell? ⟨1, 3, none⟩ = some (.int .i64 3) := T1.p 3 (by decide)
  have p4 : (w.alloc (pO (0, 0, 0))).cell? ⟨1, 4, none⟩ = some (.int .i64 3) := T1.p 4 (by decide)
  have p5 : (w.alloc (pO (0, 0, 0))).cell? ⟨1, 5, none⟩ = some (.int .i64 0) := T1.p 5 (by decide)
  have p6 : (w.alloc (pO (0, 0, 0))).cell? ⟨1, 6, none⟩ = some (.int .i64 4) := T1.p 6 (by decide)
  have p7 : (w.alloc (pO (0, 0, 0))).cell? ⟨1, 7, none⟩ = some (.int .i64 4) := T1.p 7 (by decide)
  have p8 : (w.alloc (pO (0, 0, 0))).cell? ⟨1, 8, none⟩ = some (.int .i64 0) := T1.p 8 (by decide)
  have i0 := fun w => (cp_index w).1
  have i1 := fun w => (cp_index w).2.1
  have i2 := fun w => (cp_index w).2.2
  have r0 := Lib.hid (HoldsB.new w 101 #[.int .i64 0, .int .i64 0, .int .i64 0])
  have hB := Lib.hid (w_alloc (w_refl w) (pO (0, 0, 0)))
  have hv := Lib.hid (show ∀ k : Nat, k < 3 → s = (if k = 0 then 0 else if k = 1 then 3 else 4) → Ending.returned (cpV s) = .returned (.tuple #[pv (if k = 0 then (0, 4, 0) else if k = 1 then (3, 3, 0) else (4, 4, 0)), .bool true]) by
    intro k hk e
    have c : k = 0 ∨ k = 1 ∨ k = 2 := by omega
    rcases c with rfl | rfl | rfl <;> (subst e; rfl))
  have hn := Lib.hid (show s ≠ 0 → s ≠ 3 → s ≠ 4 → Ending.returned (cpV s) = .returned (.tuple #[pv (0, 0, 0), .bool false]) by
    intro h1 h2 h3
    have e1 : clefP s = (0, 0, 0) := by unfold clefP; rw [if_neg h1, if_neg h2, if_neg h3]
    have e2 : decide (stepOk s) = false := decide_eq_false (fun h => by rcases h with h | h | h <;> contradiction)
    show Ending.returned (.tuple #[pv (clefP s), .bool (decide (stepOk s))]) = _
    rw [e1, e2])
  generalize cpV s = V at *
  clear T T1
  go_enter Tryd.func85, Tryd.ntmps85
  go_wp2_with fail
  clear p0 p1 p2 p3 p4 p5 p6 p7 p8
  go_loopw [7] (fun i wr => ∃ k : Nat, k ≤ 3 ∧ i = .int .i64 (k : Int) ∧ Hid ((1 ≤ k → s ≠ 0) ∧ (2 ≤ k → s ≠ 3) ∧ (3 ≤ k → s ≠ 4)) ∧ Hid (HoldsB wr w.heap.size 101 #[.int .i64 0, .int .i64 0, .int .i64 0]) ∧ Hid (Below w.heap.size w wr)) (fun i _ => (3 - intOf i).toNat)
  case atStart => exact ⟨0, by omega, rfl, Lib.hid ⟨by omega, by omega, by omega⟩, r0, hB⟩
  case round =>
    clear r0 hB
    obtain ⟨k, hk, rfl, hs, r0, hB⟩ := hrel
    have c : k = 0 ∨ k = 1 ∨ k = 2 ∨ k = 3 := by omega
    clear hk
    rcases c with rfl | rfl | rfl | rfl
    · by_cases h : (0 : Int) = s
      · have hr := hv.out 0 (by decide) h.symm
        simp only [if_true] at hr
        have r1 := Lib.hid (r0.out.al (pO (0, 4, 0)))
        have ff := r1.out.frozen
        have e0 := r1.out.cell (j := 0) rfl
        have e1 := r1.out.cell (j := 1) rfl
        have e2 := r1.out.cell (j := 2) rfl
        obtain ⟨d0, d1, d2⟩ := pit_put r1.out (.int .i64 0) (.int .i64 4) (.int .i64 0)
        have HR := Lib.hid hr
        clear hr hv hn hs
        subst h
        go_wp2_with fail
        refine bodyPost_ret (v := .tuple #[pv (0, 4, 0), .bool true]) (by simp [results, Tryd.results85, go_sem, d0, d1, d2]) rfl ⟨HR.out.symm, ?_⟩
        exact w_put (w_put (w_put (w_alloc hB.out _) (by omega) _ _) (by omega) _ _) (by omega) _ _
      · have hne : ((0 : Int) == s) = false := by simp [h]
        have hs2 := Lib.hid (show (1 ≤ 1 → s ≠ 0) ∧ (2 ≤ 1 → s ≠ 3) ∧ (3 ≤ 1 → s ≠ 4) from ⟨fun _ e => h e.symm, by omega, by omega⟩)
        have r1 := Lib.hid (r0.out.al (pO (0, 4, 0)))
        have hB1 := Lib.hid (w_alloc hB.out (pO (0, 4, 0)))
        clear hs hv hn h r0 hB
        go_wp2_with fail
        go_roundw
        case rel => exact ⟨1, by omega, rfl, hs2, r1, hB1⟩
        case measure => simp [intOf]
    · by_cases h : (3 : Int) = s
      · have hr := hv.out 1 (by decide) h.symm
        simp only [if_true, if_false, show ¬ (1 : Nat) = 0 by decide] at hr
        have r1 := Lib.hid (r0.out.al (pO (3, 3, 0)))
        have ff := r1.out.frozen
        have e0 := r1.out.cell (j := 0) rfl
        have e1 := r1.out.cell (j := 1) rfl
        have e2 := r1.out.cell (j := 2) rfl
        obtain ⟨d0, d1, d2⟩ := pit_put r1.out (.int .i64 3) (.int .i64 3) (.int .i64 0)
        have HR := Lib.hid hr
        clear hr hv hn hs
        subst h
        go_wp2_with fail
        refine bodyPost_ret (v := .tuple #[pv (3, 3, 0), .bool true]) (by simp [results, Tryd.results85, go_sem, d0, d1, d2]) rfl ⟨HR.out.symm, ?_⟩
        exact w_put (w_put (w_put (w_alloc hB.out _) (by omega) _ _) (by omega) _ _) (by omega) _ _
      · have hne : ((3 : Int) == s) = false := by simp [h]
        have hs2 := Lib.hid (show (1 ≤ 2 → s ≠ 0) ∧ (2 ≤ 2 → s ≠ 3) ∧ (3 ≤ 2 → s ≠ 4) from ⟨fun _ => hs.out.1 (by decide), fun _ e => h e.symm, by omega⟩)
        have r1 := Lib.hid (r0.out.al (pO (3, 3, 0)))
        have hB1 := Lib.hid (w_alloc hB.out (pO (3, 3, 0)))
        clear hs hv hn h r0 hB
        go_wp2_with fail
        go_roundw
        case rel => exact ⟨2, by omega, rfl, hs2, r1, hB1⟩
        case measure => simp [intOf]
    · by_cases h : (4 : Int) = s
      · have hr := hv.out 2 (by decide) h.symm
        simp only [if_false, show ¬ (2 : Nat) = 0 by decide, show ¬ (2 : Nat) = 1 by decide] at hr
        have r1 := Lib.hid (r0.out.al (pO (4, 4, 0)))
        have ff := r1.out.frozen
        have e0 := r1.out.cell (j := 0) rfl
        have e1 := r1.out.cell (j := 1) rfl
        have e2 := r1.out.cell (j := 2) rfl
        obtain ⟨d0, d1, d2⟩ := pit_put r1.out (.int .i64 4) (.int .i64 4) (.int .i64 0)
        have HR := Lib.hid hr
        clear hr hv hn hs
        subst h
        go_wp2_with fail
        refine bodyPost_ret (v := .tuple #[pv (4, 4, 0), .bool true]) (by simp [results, Tryd.results85, go_sem, d0, d1, d2]) rfl ⟨HR.out.symm, ?_⟩
        exact w_put (w_put (w_put (w_alloc hB.out _) (by omega) _ _) (by omega) _ _) (by omega) _ _
      · have hne : ((4 : Int) == s) = false := by simp [h]
        have hs2 := Lib.hid (show (1 ≤ 3 → s ≠ 0) ∧ (2 ≤ 3 → s ≠ 3) ∧ (3 ≤ 3 → s ≠ 4) from ⟨fun _ => hs.out.1 (by decide), fun _ => hs.out.2.1 (by decide), fun _ e => h e.symm⟩)
        have r1 := Lib.hid (r0.out.al (pO (4, 4, 0)))
        have hB1 := Lib.hid (w_alloc hB.out (pO (4, 4, 0)))
        clear hs hv hn h r0 hB
        go_wp2_with fail
        go_roundw
        case rel => exact ⟨3, by omega, rfl, hs2, r1, hB1⟩
        case measure => simp [intOf]
    · have HR := Lib.hid (hn.out (hs.out.1 (by decide)) (hs.out.2.1 (by decide)) (hs.out.2.2 (by decide)))
      have ff := r0.out.frozen
      have e0 := r0.out.cell (j := 0) rfl
      have e1 := r0.out.cell (j := 1) rfl
      have e2 := r0.out.cell (j := 2) rfl
      obtain ⟨d0, d1, d2⟩ := pit_put r0.out (.int .i64 0) (.int .i64 0) (.int .i64 0)
      clear hv hn hs
      go_wp2_with fail
      refine bodyPost_ret (v := .tuple #[pv (0, 0, 0), .bool false]) (by simp [results, Tryd.results85, go_sem, d0, d1, d2]) rfl ⟨HR.out.symm, ?_⟩
      exact w_put (w_put (w_put hB.out (by omega) _ _) (by omega) _ _) (by omega) _ _


set_option maxHeartbeats 2000000 in
theorem cchk_any (c : Cl) (w : World) (T : TabS w) : Calls Tryd.prog 74 #[cv c] w fun e w' => e = .returned (.int .i64 (chkC c)) ∧ Below w.heap.size w w' := by
  have C := Lib.hid (show ∀ W, Below w.heap.size w W → Calls Tryd.prog 85 #[.int .i64 c.1] W fun e w' => e = .returned (.tuple #[pv (clefP c.1), .bool (decide (stepOk c.1))]) ∧ Below W.heap.size W w' from fun W b => clefp_any c.1 W (T.later b))
  have K := Lib.hid (Two2.made w c 25)
  have hB := Lib.hid (w_alloc (w_refl w) (cO c))
  clear T
  by_cases hs : stepOk c.1
  · rw [decide_eq_true hs] at C
    by_cases hl : 1 ≤ c.2 ∧ c.2 ≤ 5
    · rw [chkC_ok ⟨hs, hl⟩]
      obtain ⟨h1, h2⟩ := hl
      clear hs
      generalize clefP c.1 = p at *
      obtain ⟨p1, p2, p3⟩ := p
      obtain ⟨s, l⟩ := c
      simp only at h1 h2
      go_enter Tryd.func74, Tryd.ntmps74
      go_wp2_with fail
      refine (C.out _ hB.out).mono ?_
      rintro e w1 ⟨rfl, hb⟩
      have hb9 := w_alloc hb (pO (p1, p2, p3))
      replace hB := Lib.hid (w_below hB.out hb9)
      obtain ⟨_, k0, k1, _, _⟩ := K.out.later hb9
      simp only at k0 k1
      clear hb hb9 C K
      go_wp2_with fail
      go_ret
      exact ⟨rfl, hB.out⟩
    · rw [chkC_line hs hl]
      clear hs
      generalize clefP c.1 = p at *
      obtain ⟨p1, p2, p3⟩ := p
      obtain ⟨s, l⟩ := c
      simp only at hl
      by_cases h1 : l < 1
      · clear hl
        go_enter Tryd.func74, Tryd.ntmps74
        go_wp2_with fail
        refine (C.out _ hB.out).mono ?_
        rintro e w1 ⟨rfl, hb⟩
        have hb9 := w_alloc hb (pO (p1, p2, p3))
        replace hB := Lib.hid (w_below hB.out hb9)
        obtain ⟨_, k0, k1, _, _⟩ := K.out.later hb9
        simp only at k0 k1
        clear hb hb9 C K
        go_wp2_with fail
        go_ret
        exact ⟨rfl, hB.out⟩
      · have h2 : 5 < l := by omega
        clear hl
        go_enter Tryd.func74, Tryd.ntmps74
        go_wp2_with fail
        refine (C.out _ hB.out).mono ?_
        rintro e w1 ⟨rfl, hb⟩
        have hb9 := w_alloc hb (pO (p1, p2, p3))
        replace hB := Lib.hid (w_below hB.out hb9)
        obtain ⟨_, k0, k1, _, _⟩ := K.out.later hb9
        simp only at k0 k1
        clear hb hb9 C K
        go_wp2_with fail
        go_ret
        exact ⟨rfl, hB.out⟩
  · rw [chkC_step hs]
    rw [decide_eq_false hs] at C
    clear hs
    generalize clefP c.1 = p at *
    obtain ⟨p1, p2, p3⟩ := p
    obtain ⟨s, l⟩ := c
    go_enter Tryd.func74, Tryd.ntmps74
    go_wp2_with fail
    refine (C.out _ hB.out).mono ?_
    rintro e w1 ⟨rfl, hb⟩
    have hb9 := w_alloc hb (pO (p1, p2, p3))
    replace hB := Lib.hid (w_below hB.out hb9)
    clear hb hb9 C K
    go_wp2_with fail
    go_ret
    exact ⟨rfl, hB.out⟩


end Go.Proofs.YtcomjcflllfobaaDoor
