/- The reference's Place and Moved. -/
import Derived.Test.YteomimeagloofaaDoorCRefB
namespace Go.Proofs.YteomimeagloofaaDoor
open Go.RowKit

theorem pla_key {c : Cl} {k : Int} {p : Pi3} (h : ¬ keyE c k = 0) : plaV c k p = (0, 0, keyE c k) := by
  have e : plaE c k p = keyE c k := if_neg h
  unfold plaV; rw [if_neg (by rw [e]; exact h), e]
theorem pla_chk {c : Cl} {k : Int} {p : Pi3} (h : keyE c k = 0) (hp : ¬ okP p) : plaV c k p = (0, 0, 2) := by
  have e1 : chkV p = 2 := if_neg hp
  have e : plaE c k p = 2 := by unfold plaE; rw [if_pos h, if_neg (by rw [e1]; decide), e1]
  unfold plaV; rw [if_neg (by rw [e]; decide), e]
theorem pla_on {c : Cl} {k : Int} {p : Pi3} (h : keyE c k = 0) (hp : okP p) (ho : ¬ onP (atI c p)) : plaV c k p = (0, 0, 2) := by
  have e : plaE c k p = 2 := by unfold plaE; rw [if_pos h, if_pos (chkV_ok hp), if_neg ho]
  unfold plaV; rw [if_neg (by rw [e]; decide), e]
theorem pla_ok {c : Cl} {k : Int} {p : Pi3} (h : keyE c k = 0) (hp : okP p) (ho : onP (atI c p)) : plaV c k p = (atI c p, accI k p, 0) := by
  have e : plaE c k p = 0 := by unfold plaE; rw [if_pos h, if_pos (chkV_ok hp), if_pos ho]
  unfold plaV; rw [if_pos e]

set_option maxHeartbeats 8000000 in
theorem rcpla_any (c : Cl) (k : Int) (p : Pi3) (w : World) : Calls Tryd.prog 20 #[cv c, .int .i64 k, pv p] w (PlaPost c k p w) := by
  unfold PlaPost
  have C := Lib.hid (fun W => rkey_any c k W)
  have CP := Lib.hid (fun W => rcheck_any p W)
  have K := Lib.hid ((Two2.made w c 23).later (w_alloc (w_refl _) (pO p)))
  have R := Lib.hid (Cell3.made (w.alloc (cO c)) p 25)
  rw [World.size_alloc] at R
  have hB := Lib.hid (w_alloc (w_alloc (w_refl w) (cO c)) (pO p))
  by_cases hk : keyE c k = 0
  · rw [hk] at C
    by_cases hp : okP p
    · rw [chkV_ok hp] at CP
      obtain ⟨hc, hkb⟩ := keyE_zero hk
      have LO := Lib.hid (fun W => rlow_any c hc W)
      have hlb := low_bd hc
      have FL := Lib.hid (fun s W => rflat_any k s hkb W)
      have ON := Lib.hid (fun x W => ron_any x W)
      have hV1 := Lib.hid (fun ho => pla_ok hk hp ho)
      have hV2 := Lib.hid (fun ho => pla_on hk hp ho)
      obtain ⟨at0, hat⟩ : ∃ x, atI c p = x := ⟨_, rfl⟩
      have hat2 : 7 * p.2.1 + p.1 - lowC c = at0 := hat
      rw [hat] at hV1 hV2
      generalize plaV c k p = V at *
      have hacc := Lib.hid (show accI k p = if p.2.2 = flatI k p.1 then 0 else if p.2.2 = 0 then 2 else p.2.2 from rfl)
      generalize accI k p = ac at *
      obtain ⟨s, o, a⟩ := p
      obtain ⟨⟨p1, p2⟩, ⟨p3, p4⟩, p5, p6⟩ := hp
      simp only at p1 p2 p3 p4 p5 p6 hat2 hacc
      generalize lowC c = lo at *
      obtain ⟨s0, l0⟩ := c
      obtain ⟨m, hm⟩ : ∃ m, 7 * o + s = m := ⟨_, rfl⟩
      rw [hm] at hat2
      have x1 : IntKind.i64.wrap (7 * o) = 7 * o := IntWalk.i64_in _ (by omega)
      have x2 : IntKind.i64.wrap (7 * o + s) = m := by rw [IntWalk.i64_in _ (by omega)]; exact hm
      have x3 : IntKind.i64.wrap (m - lo) = at0 := by rw [IntWalk.i64_in _ (by omega)]; exact hat2
      clear hk hc hkb hat hm hat2 hlb p1 p2 p3 p4
      go_enter Tryd.func20, Tryd.ntmps20
      go_wp2_with fail
      refine (C.out _).mono ?_
      rintro e w1 ⟨rfl, hb⟩
      replace hB := Lib.hid (w_below hB.out hb)
      replace K := Lib.hid (K.out.later hb)
      replace R := Lib.hid (R.out.later hb)
      clear hb C
      obtain ⟨_, r0, r1, r2, _, _, _⟩ := R.out
      simp only at r0 r1 r2
      go_wp2_with fail
      clear r0 r1 r2
      refine (CP.out _).mono ?_
      rintro e w2 ⟨rfl, hb⟩
      have FX := Lib.hid (show _ ∧ _ ∧ _ from ⟨(w_below hB.out hb).drew, (K.out.later hb).later (w_refl _).drew, (R.out.later hb).later (w_refl _).drew⟩)
      clear hb CP hB K R
      go_wp2_with fail
      go_cut [10] (fun s10 wx => s10 = .int .i64 at0 ∧ Hid (Below w.heap.size w wx ∧ Cell3 wx (w.heap.size + 1) (s, o, a)))
      case first =>
        go_region_held3 (fun W => W.cell? ⟨w.heap.size, 0, none⟩ = some (.int .i64 s0) ∧ W.cell? ⟨w.heap.size, 1, none⟩ = some (.int .i64 l0) ∧ W.cell? ⟨w.heap.size + 1, 0, none⟩ = some (.int .i64 s) ∧ W.cell? ⟨w.heap.size + 1, 1, none⟩ = some (.int .i64 o))
          (first
            | exact ⟨FX.out.2.1.c0, FX.out.2.1.c1, FX.out.2.2.c0, FX.out.2.2.c1⟩
            | fail)
          (first
            | (go_at_call 35; refine (LO.out _).mono ?_; rintro e wn ⟨rfl, hb⟩; replace FX := Lib.hid (show _ ∧ _ ∧ _ from ⟨w_below FX.out.1 hb, FX.out.2.1.later hb, FX.out.2.2.later hb⟩); clear hb LO)
            | fail)
        all_goals
          go_wp2_with fail
          go_meet
          exact ⟨rfl, Lib.hid ⟨FX.out.1, FX.out.2.2⟩⟩
      case rest =>
        obtain ⟨rfl, FY⟩ := hcut
        clear FX LO x1 x2 x3
        have O1 := Lib.hid (fun W => ON.out at0 W)
        clear ON
        by_cases ho : onP at0
        · rw [decide_eq_true ho] at O1
          have hv := Lib.hid (hV1.out ho)
          clear hV1 hV2
          have F1 := Lib.hid (fun W => FL.out s W)
          clear FL
          generalize flatI k s = fl at *
          obtain ⟨_, r0, r1, r2, _, _, _⟩ := FY.out.2
          simp only at r0 r1 r2
          go_wp2_with fail
          refine (O1.out _).mono ?_
          rintro e w3 ⟨rfl, rfl⟩
          clear O1
          go_wp2_with fail
          go_cut [34] (fun s34 wx => s34 = .bool (a == fl) ∧ Hid (Below w.heap.size w wx ∧ Cell3 wx (w.heap.size + 1) (s, o, a)))
          case first =>
            have FZ := Lib.hid (show _ ∧ _ from ⟨FY.out.1.drew, FY.out.2.later (w_refl _).drew⟩)
            go_region_held3 (fun W => W.cell? ⟨w.heap.size + 1, 0, none⟩ = some (.int .i64 s) ∧ W.cell? ⟨w.heap.size + 1, 2, none⟩ = some (.int .i64 a))
              (first
                | exact ⟨FZ.out.2.c0, FZ.out.2.c2⟩
                | fail)
              (first
                | (go_at_call 36; refine (F1.out _).mono ?_; rintro e wn ⟨rfl, rfl⟩; clear F1)
                | fail)
            all_goals
              go_wp2_with fail
              go_meet
              exact ⟨rfl, Lib.hid ⟨FZ.out.1, FZ.out.2⟩⟩
          case rest =>
            obtain ⟨rfl, FZ⟩ := hcut
            clear FY F1 r0 r1 r2
            obtain ⟨_, r0, r1, r2, _, _, _⟩ := FZ.out.2
            simp only at r0 r1 r2
            by_cases e1 : a = fl
            · have hfin := Lib.hid (show Ending.returned (Value.tuple #[.int .i64 V.1, .int .i64 V.2.1, .int .i64 V.2.2]) = .returned (.tuple #[.int .i64 at0, .int .i64 0, .int .i64 0]) by rw [hv.out, hacc.out, if_pos e1])
              have e2 : (a == fl) = true := by simp [e1]
              clear hv hacc e1
              go_wp2_with fail
              go_ret3
              exact ⟨hfin.out.symm, FZ.out.1⟩
            · have e2 : (a == fl) = false := by simp [e1]
              by_cases e3 : a = 0
              · have hfin := Lib.hid (show Ending.returned (Value.tuple #[.int .i64 V.1, .int .i64 V.2.1, .int .i64 V.2.2]) = .returned (.tuple #[.int .i64 at0, .int .i64 2, .int .i64 0]) by rw [hv.out, hacc.out, if_neg e1, if_pos e3])
                have e4 : (a == 0) = true := by simp [e3]
                clear hv hacc e1 e3
                go_wp2_with fail
                go_ret3
                exact ⟨hfin.out.symm, FZ.out.1⟩
              · have hfin := Lib.hid (show Ending.returned (Value.tuple #[.int .i64 V.1, .int .i64 V.2.1, .int .i64 V.2.2]) = .returned (.tuple #[.int .i64 at0, .int .i64 a, .int .i64 0]) by rw [hv.out, hacc.out, if_neg e1, if_neg e3])
                have e4 : (a == 0) = false := by simp [e3]
                clear hv hacc e1 e3
                go_wp2_with fail
                go_region
                all_goals
                  go_wp2_with fail
                  go_ret3
                  exact ⟨hfin.out.symm, FZ.out.1.drew⟩
        · rw [decide_eq_false ho] at O1
          have hfin := Lib.hid (show Ending.returned (Value.tuple #[.int .i64 V.1, .int .i64 V.2.1, .int .i64 V.2.2]) = .returned (.tuple #[.int .i64 0, .int .i64 0, .int .i64 2]) by rw [hV2.out ho])
          clear hV1 hV2 hacc FL ho
          go_wp2_with fail
          refine (O1.out _).mono ?_
          rintro e w3 ⟨rfl, rfl⟩
          clear O1
          go_wp2_with fail
          go_ret3
          exact ⟨hfin.out.symm, FY.out.1⟩
    · rw [pla_chk hk hp]
      rw [show chkV p = 2 from if_neg hp] at CP
      clear hk hp K
      obtain ⟨s, o, a⟩ := p
      obtain ⟨s0, l0⟩ := c
      go_enter Tryd.func20, Tryd.ntmps20
      go_wp2_with fail
      refine (C.out _).mono ?_
      rintro e w1 ⟨rfl, hb⟩
      replace hB := Lib.hid (w_below hB.out hb)
      obtain ⟨_, r0, r1, r2, _, _, _⟩ := R.out.later hb
      simp only at r0 r1 r2
      clear hb C
      go_wp2_with fail
      refine (CP.out _).mono ?_
      rintro e w2 ⟨rfl, hb⟩
      replace hB := Lib.hid (w_below hB.out hb)
      clear hb CP r0 r1 r2
      go_wp2_with fail
      go_ret3
      exact ⟨rfl, hB.out⟩
  · rw [pla_key hk]
    have hne : (keyE c k != 0) = true := by simp [hk]
    have hne2 : (keyE c k == 0) = false := by simp [hk]
    clear hk CP K R
    generalize keyE c k = E at *
    obtain ⟨s, o, a⟩ := p
    obtain ⟨s0, l0⟩ := c
    go_enter Tryd.func20, Tryd.ntmps20
    go_wp2_with fail
    refine (C.out _).mono ?_
    rintro e w1 ⟨rfl, hb⟩
    replace hB := Lib.hid (w_below hB.out hb)
    clear hb C
    go_wp2_with fail
    go_ret3
    exact ⟨rfl, hB.out⟩

end Go.Proofs.YteomimeagloofaaDoor
