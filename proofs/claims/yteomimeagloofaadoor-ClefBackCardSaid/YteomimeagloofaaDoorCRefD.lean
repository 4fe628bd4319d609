/- The reference's Moved and needs. -/
import Derived.Test.YteomimeagloofaaDoorCRefC
import Derived.WalkSmall
namespace Go.Proofs.YteomimeagloofaaDoor
open Go.RowKit

theorem ron_back (x : Int) (w : World) : Calls Tryd.prog 34 #[.int .i64 x] w fun e w' => e = .returned (.bool (decide (onP x))) ∧ w' = w :=
  (ron_any x w).mono fun _ _ h => ⟨h.1, h.2.symm⟩
theorem mov_c {c d : Cl} {x : Int} (h : ¬ chkC c = 0) : movE c d x = chkC c ∧ movV c d x = 0 := by
  have e : movE c d x = chkC c := if_neg h
  exact ⟨e, if_neg (by rw [e]; exact h)⟩
theorem mov_d {c d : Cl} {x : Int} (h : chkC c = 0) (k : ¬ chkC d = 0) : movE c d x = chkC d ∧ movV c d x = 0 := by
  have e : movE c d x = chkC d := by unfold movE; rw [if_pos h, if_neg k]
  exact ⟨e, if_neg (by rw [e]; exact k)⟩
theorem mov_out {c d : Cl} {x : Int} (h : chkC c = 0) (k : chkC d = 0) (ho : ¬ (onP x ∧ onP (x + lowC c - lowC d))) : movE c d x = 2 ∧ movV c d x = 0 := by
  have e : movE c d x = 2 := by unfold movE; rw [if_pos h, if_pos k, if_neg ho]
  exact ⟨e, if_neg (by rw [e]; decide)⟩
theorem mov_ok {c d : Cl} {x : Int} (h : chkC c = 0) (k : chkC d = 0) (ho : onP x ∧ onP (x + lowC c - lowC d)) : movE c d x = 0 ∧ movV c d x = x + lowC c - lowC d := by
  have e : movE c d x = 0 := by unfold movE; rw [if_pos h, if_pos k, if_pos ho]
  exact ⟨e, if_pos e⟩

set_option maxHeartbeats 2000000 in
theorem rcmov_any (c d : Cl) (x : Int) (w : World) : Calls Tryd.prog 17 #[cv c, cv d, .int .i64 x] w (MovPost c d x w) := by
  unfold MovPost
  have C1 := Lib.hid (fun W => rcchk_any c W)
  have C2 := Lib.hid (fun W => rcchk_any d W)
  have KC := Lib.hid ((Two2.made w c 23).later (w_alloc (w_refl _) (cO d)))
  have KD := Lib.hid (Two2.made (w.alloc (cO c)) d 23)
  rw [World.size_alloc] at KD
  have hB := Lib.hid (w_alloc (w_alloc (w_refl w) (cO c)) (cO d))
  by_cases h : chkC c = 0
  · rw [h] at C1
    by_cases k : chkC d = 0
    · rw [k] at C2
      have hc := chkC_zero h
      have hd := chkC_zero k
      have L1 := Lib.hid (fun W => rlow_any c hc W)
      have L2 := Lib.hid (fun W => rlow_any d hd W)
      have b1 := low_bd hc
      have b2 := low_bd hd
      have hno := Lib.hid (fun ho => mov_out (x := x) h k ho)
      have hok := Lib.hid (fun ho => mov_ok (x := x) h k ho)
      have O1 := Lib.hid (fun W => ron_any x W)
      have O2 := Lib.hid (fun W => ron_any (x + lowC c - lowC d) W)
      generalize movE c d x = E at *
      generalize movV c d x = V at *
      generalize lowC c = lc at *
      generalize lowC d = ld at *
      obtain ⟨s0, l0⟩ := c
      obtain ⟨s1, l1⟩ := d
      clear h k hc hd
      by_cases ho : onP x
      · rw [decide_eq_true ho] at O1
        obtain ⟨m1, hm1⟩ : ∃ m, x + lc = m := ⟨_, rfl⟩
        obtain ⟨m2, hm2⟩ : ∃ m, m1 - ld = m := ⟨_, rfl⟩
        have ho2 := ho
        unfold onP at ho2
        have x1 : IntKind.i64.wrap (x + lc) = m1 := by rw [IntWalk.i64_in _ (by omega)]; exact hm1
        have x2 : IntKind.i64.wrap (m1 - ld) = m2 := by rw [IntWalk.i64_in _ (by omega)]; exact hm2
        have hm3 : x + lc - ld = m2 := by omega
        rw [hm3] at O2 hno hok
        clear b1 b2 hm1 hm2 hm3 ho2
        have hfin := Lib.hid (show Ending.returned (Value.tuple #[.int .i64 V, .int .i64 E]) = .returned (.tuple #[.int .i64 (if onP m2 then m2 else 0), .int .i64 (if onP m2 then 0 else 2)]) by
          by_cases hh : onP m2
          · rw [(hok.out ⟨ho, hh⟩).1, (hok.out ⟨ho, hh⟩).2, if_pos hh, if_pos hh]
          · rw [(hno.out (fun x => hh x.2)).1, (hno.out (fun x => hh x.2)).2, if_neg hh, if_neg hh])
        clear hno hok ho
        have L3 := Lib.hid (fun W => L1.out W)
        have L4 := Lib.hid (fun W => L2.out W)
        go_enter Tryd.func17, Tryd.ntmps17
        go_wp2_with fail
        refine (C1.out _).mono ?_
        rintro e w1 ⟨rfl, hb⟩
        replace hB := Lib.hid (w_below hB.out hb)
        replace KC := Lib.hid (KC.out.later hb)
        replace KD := Lib.hid (KD.out.later hb)
        clear hb C1
        obtain ⟨_, k0, k1, _, _⟩ := KD.out
        simp only at k0 k1
        go_wp2_with fail
        refine (C2.out _).mono ?_
        rintro e w2 ⟨rfl, hb⟩
        have FX := Lib.hid (show _ ∧ _ ∧ _ from ⟨(w_below hB.out hb).drew, (KC.out.later hb).later (w_refl _).drew, (KD.out.later hb).later (w_refl _).drew⟩)
        clear hb C2 hB KC KD k0 k1
        go_wp2_with fail
        go_cut [31] (fun s31 wx => s31 = .bool (!decide (onP m2)) ∧ Hid (Below w.heap.size w wx ∧ Two2 wx w.heap.size (s0, l0) ∧ Two2 wx (w.heap.size + 1) (s1, l1)))
        case first =>
          clear hfin L3 L4
          go_region_held3 (fun W => W.cell? ⟨w.heap.size, 0, none⟩ = some (.int .i64 s0) ∧ W.cell? ⟨w.heap.size, 1, none⟩ = some (.int .i64 l0) ∧ W.cell? ⟨w.heap.size + 1, 0, none⟩ = some (.int .i64 s1) ∧ W.cell? ⟨w.heap.size + 1, 1, none⟩ = some (.int .i64 l1))
            (first
              | exact ⟨FX.out.2.1.c0, FX.out.2.1.c1, FX.out.2.2.c0, FX.out.2.2.c1⟩
              | fail)
            (first
              | (go_at_call 34; refine (O1.out _).mono ?_; rintro e wn ⟨rfl, rfl⟩; clear O1)
              | (go_at_call 35; refine (L1.out _).mono ?_; rintro e wn ⟨rfl, hb⟩; replace FX := Lib.hid (show _ ∧ _ ∧ _ from ⟨w_below FX.out.1 hb, FX.out.2.1.later hb, FX.out.2.2.later hb⟩); clear hb L1)
              | (go_at_call 35; refine (L2.out _).mono ?_; rintro e wn ⟨rfl, hb⟩; replace FX := Lib.hid (show _ ∧ _ ∧ _ from ⟨w_below FX.out.1 hb, FX.out.2.1.later hb, FX.out.2.2.later hb⟩); clear hb L2)
              | (go_at_call 34; refine (O2.out _).mono ?_; rintro e wn ⟨rfl, rfl⟩; clear O2)
              | fail)
          all_goals
            go_wp2_with fail
            go_meet
            exact ⟨rfl, FX⟩
        case rest =>
          obtain ⟨rfl, FY⟩ := hcut
          clear FX O1 O2 L1 L2
          by_cases hh : onP m2
          · rw [if_pos hh, if_pos hh] at hfin
            rw [decide_eq_true hh]
            clear hh
            go_wp2_with fail
            have FZ := Lib.hid (show _ ∧ _ ∧ _ from ⟨FY.out.1.drew, FY.out.2.1.later (w_refl _).drew, FY.out.2.2.later (w_refl _).drew⟩)
            clear FY
            go_region_held3 (fun W => W.cell? ⟨w.heap.size, 0, none⟩ = some (.int .i64 s0) ∧ W.cell? ⟨w.heap.size, 1, none⟩ = some (.int .i64 l0) ∧ W.cell? ⟨w.heap.size + 1, 0, none⟩ = some (.int .i64 s1) ∧ W.cell? ⟨w.heap.size + 1, 1, none⟩ = some (.int .i64 l1))
              (first
                | exact ⟨FZ.out.2.1.c0, FZ.out.2.1.c1, FZ.out.2.2.c0, FZ.out.2.2.c1⟩
                | fail)
              (first
                | (go_at_call 35; refine (L3.out _).mono ?_; rintro e wn ⟨rfl, hb⟩; replace FZ := Lib.hid (show _ ∧ _ ∧ _ from ⟨w_below FZ.out.1 hb, FZ.out.2.1.later hb, FZ.out.2.2.later hb⟩); clear hb L3)
                | (go_at_call 35; refine (L4.out _).mono ?_; rintro e wn ⟨rfl, hb⟩; replace FZ := Lib.hid (show _ ∧ _ ∧ _ from ⟨w_below FZ.out.1 hb, FZ.out.2.1.later hb, FZ.out.2.2.later hb⟩); clear hb L4)
                | fail)
            all_goals
              go_wp2_with fail
              go_ret2
              exact ⟨hfin.out.symm, FZ.out.1⟩
          · rw [if_neg hh, if_neg hh] at hfin
            rw [decide_eq_false hh]
            clear hh L3 L4
            go_wp2_with fail
            go_ret2
            exact ⟨hfin.out.symm, FY.out.1⟩
      · rw [decide_eq_false ho] at O1
        have hfin := Lib.hid (show Ending.returned (Value.tuple #[.int .i64 V, .int .i64 E]) = .returned (.tuple #[.int .i64 0, .int .i64 2]) by
          rw [(hno.out (fun x => ho x.1)).1, (hno.out (fun x => ho x.1)).2])
        have O3 := Lib.hid (fun W => ron_back x W)
        rw [decide_eq_false ho] at O3
        clear hno hok ho b1 b2 L1 L2 O2 O1
        go_enter Tryd.func17, Tryd.ntmps17
        go_wp2_with fail
        refine (C1.out _).mono ?_
        rintro e w1 ⟨rfl, hb⟩
        replace hB := Lib.hid (w_below hB.out hb)
        replace KC := Lib.hid (KC.out.later hb)
        replace KD := Lib.hid (KD.out.later hb)
        clear hb C1
        obtain ⟨_, k0, k1, _, _⟩ := KD.out
        simp only at k0 k1
        go_wp2_with fail
        refine (C2.out _).mono ?_
        rintro e w2 ⟨rfl, hb⟩
        have FX := Lib.hid (w_below hB.out hb)
        clear hb C2 hB KC KD k0 k1
        go_wp2_with fail
        go_quiet ((go_at_call 34; exact Calls.quiet_of_same (O3.out _)))
        go_wp2_with fail
        go_ret2
        exact ⟨hfin.out.symm, below_drewN FX.out _⟩
    · obtain ⟨e1, e2⟩ := mov_d (x := x) h k
      rw [e1, e2]
      have hne : (chkC d != 0) = true := by simp [k]
      have hne2 : (chkC d == 0) = false := by simp [k]
      clear h k e1 e2
      generalize chkC d = E at *
      obtain ⟨s0, l0⟩ := c
      obtain ⟨s1, l1⟩ := d
      go_enter Tryd.func17, Tryd.ntmps17
      go_wp2_with fail
      refine (C1.out _).mono ?_
      rintro e w1 ⟨rfl, hb⟩
      replace hB := Lib.hid (w_below hB.out hb)
      obtain ⟨_, k0, k1, _, _⟩ := KD.out.later hb
      simp only at k0 k1
      clear hb C1
      go_wp2_with fail
      refine (C2.out _).mono ?_
      rintro e w2 ⟨rfl, hb⟩
      replace hB := Lib.hid (w_below hB.out hb)
      clear hb C2 k0 k1
      go_wp2_with fail
      go_ret2
      exact ⟨rfl, hB.out⟩
  · obtain ⟨e1, e2⟩ := mov_c (d := d) (x := x) h
    rw [e1, e2]
    have hne : (chkC c != 0) = true := by simp [h]
    have hne2 : (chkC c == 0) = false := by simp [h]
    clear h e1 e2
    generalize chkC c = E at *
    obtain ⟨s0, l0⟩ := c
    obtain ⟨s1, l1⟩ := d
    go_enter Tryd.func17, Tryd.ntmps17
    go_wp2_with fail
    refine (C1.out _).mono ?_
    rintro e w1 ⟨rfl, hb⟩
    replace hB := Lib.hid (w_below hB.out hb)
    clear hb C1 KC KD
    go_wp2_with fail
    go_ret2
    exact ⟨rfl, hB.out⟩

end Go.Proofs.YteomimeagloofaaDoor
