/- The reference's error of a sign by itself. -/
import Derived.Test.YtcomjcflllfobaaDoorSRefD
import Derived.Test.YtcomjcflllfobaaDoorSProgD
namespace Go.Proofs.YtcomjcflllfobaaDoor
open Go.RowKit
attribute [local go_sem] sgA_g0 sgA_g1 sgA_g2 sgA_g3 sgA_g4 sgA_g5 sgA_g6 sgA_g7 sgA_g8 sgA_g9 sgA_g10 sgA_g11 sgA_g12 sgA_g13 sgA_g14 sgA_g15 sgA_g16

theorem sgE_comm (a b : Sg) : sgE a b = sgE b a := by
  rw [Bool.eq_iff_iff, sgE_iff, sgE_iff]
  exact ⟨fun h => h.symm, fun h => h.symm⟩
set_option maxRecDepth 100000 in
theorem rone_no (s : Sg) (h : ¬ kOk s.kind) (w : World) : Calls Tryd.prog 15 #[sgv s] w fun e w' => e = .returned (.int .i64 (oneE s)) ∧ Below w.heap.size w w' := by
  have k0 := (sg_new w s).cell (j := 0) (v := .int .i64 s.kind) rfl
  have B1 := Lib.hid (w_alloc (w_refl w) (sgO s))
  rw [one_no h]
  have ways : s.kind < 1 ∨ (1 ≤ s.kind ∧ 12 < s.kind) := by unfold kOk at h; omega
  clear h
  rcases ways with g1 | ⟨g1, g2⟩
  all_goals
    go_enter Tryd.func15, Tryd.ntmps15
    go_wp2_with (first | (refine wl_box s (by kernel_rfl) ?_) | fail)
    go_ret
    exact ⟨rfl, B1.out⟩

set_option maxRecDepth 100000 in
set_option maxHeartbeats 8000000 in
theorem rone_any (s : Sg) (w : World) : Calls Tryd.prog 15 #[sgv s] w fun e w' => e = .returned (.int .i64 (oneE s)) ∧ Below w.heap.size w w' := by
  by_cases h : kOk s.kind
  case neg => exact rone_no s h w
  have k0 := (sg_new w s).cell (j := 0) (v := .int .i64 s.kind) rfl
  have HS := Lib.hid (sg_new w s)
  have B2 := Lib.hid (w_alloc (w_refl w) (sgO s))
  have hk1 : 1 ≤ s.kind := h.1
  have hk2 : s.kind ≤ 12 := h.2
  have RG := Lib.hid (fun W => rrng_any s h W)
  have RS := Lib.hid (one_rest h)
  have RM := Lib.hid (one_mens h)
  have RF := Lib.hid (one_form h)
  have hneq := fun W => sg_neq (useS s) s W
  rw [sgE_comm] at hneq
  have hgrd := fun x y W => sg_guard BinOp.neq x y (useS s) s W
  have KO0 := Lib.hid (fun W => rused_any s h W)
  generalize useS s = U at *
  generalize oneE s = E at *
  clear h
  go_enter Tryd.func15, Tryd.ntmps15
  go_wp2_with (first | (refine wl_box s (by kernel_rfl) ?_) | fail)
  clear k0 hk1 hk2
  generalize w.alloc (sgO s) = y at *
  go_cut [12] (fun s12 wx => s12 = .bool (!(sgE s U)) ∧ Hid (Below y.heap.size y wx))
  case first =>
    have KO := Lib.hid (show ∀ n : Grown y, Calls Tryd.prog 46 #[sgv s] n.W fun e w' => e = .returned (sgv U) ∧ Grew y w' from fun n => (KO0.out n.W).mono fun e w' ⟨h1, h2⟩ => ⟨h1, n.on h2, rfl⟩)
    clear RG RS RM RF KO0 B2
    refine wp_region_grown (by kernel_rfl) (by kernel_rfl) ?_
    refine quiet_load (v := sgv s) (sg_yields (.tmp 1) w.heap.size 0 s (by kernel_rfl) rfl (by kernel_rfl) (fun _ ⟨n, e⟩ => e ▸ (HS.out.later n.b).sg)) (by simp only [Act.put, List.setIfInBounds_toArray, List.set_cons_succ, List.set_cons_zero]; rfl) ?_
    go_big_quiet_step (exact KO.out _)
    refine quiet_load (v := sgv s) (sg_yields (.tmp 1) w.heap.size 0 s (by kernel_rfl) rfl (by kernel_rfl) (fun _ ⟨n, e⟩ => e ▸ (HS.out.later n.b).sg)) (by simp only [Act.put, List.setIfInBounds_toArray, List.set_cons_succ, List.set_cons_zero]; rfl) ?_
    repeat (go_big_quiet_step (exact KO.out _))
    refine wpQuiet_nil ?_
    intro n
    go_wp2_with fail
    go_meet
    exact ⟨rfl, Lib.hid n.b⟩
  case rest =>
    obtain ⟨rfl, hb⟩ := hcut
    clear KO0 hneq hgrd
    replace B2 := Lib.hid (w_below B2.out hb.out)
    replace HS := Lib.hid (HS.out.later hb.out)
    clear hb
    have HL := Lib.hid HS.out.sg
    have k0 := HS.out.cell (j := 0) (v := .int .i64 s.kind) rfl
    have k6 := HS.out.cell (j := 6) (v := .bool s.obl) rfl
    have k7 := HS.out.cell (j := 7) (v := .bool s.last) rfl
    have k8 := HS.out.cell (j := 8) (v := .int .i64 s.m0) rfl
    have k9 := HS.out.cell (j := 9) (v := .int .i64 s.m1) rfl
    have k10 := HS.out.cell (j := 10) (v := .int .i64 s.m2) rfl
    have k11 := HS.out.cell (j := 11) (v := .int .i64 s.m3) rfl
    rename World => wr
    cases hx : sgE s U with
    | false =>
      have hE := Lib.hid (RF.out hx)
      clear RF RM RS RG
      go_wp2_with fail
      go_ret
      exact ⟨by rw [hE.out]; first | done | rfl, B2.out⟩
    | true =>
      have MC := Lib.hid (fun W => rmcheck_any (mq s) W)
      by_cases hk5 : s.kind = 5
      · have q5 : (s.kind == 5) = true := by simp [hk5]
        by_cases hm : okM (mq s)
        · have hE := RS.out hx (fun _ => hm)
          rw [chkM_ok hm] at MC
          clear RF RM RS hm hk5
          generalize rngB s = R at *
          cases R with
          | false =>
            go_wp2_with fail
            refine (MC.out _).mono ?_
            rintro e w1 ⟨rfl, hb⟩
            replace B2 := Lib.hid (w_below B2.out hb)
            replace HL := Lib.hid (HL.out.later hb)
            replace k6 := cell_later hb k6
            replace k7 := cell_later hb k7
            clear hb MC k0 k8 k9 k10 k11
            go_wp2_with (first | (refine wl_load w.heap.size 0 s (by kernel_rfl) HL.out ?_) | fail)
            refine (RG.out _).mono ?_
            rintro e w2 ⟨rfl, hb⟩
            replace B2 := Lib.hid (w_below B2.out hb)
            replace k6 := cell_later hb k6
            replace k7 := cell_later hb k7
            clear hb RG HL
            go_wp2_with fail
            go_ret
            exact ⟨by rw [hE]; first | done | rfl, B2.out⟩
          | true =>
            cases ho : s.obl with
            | false =>
              rw [ho] at k6 hE
              go_wp2_with fail
              refine (MC.out _).mono ?_
              rintro e w1 ⟨rfl, hb⟩
              replace B2 := Lib.hid (w_below B2.out hb)
              replace HL := Lib.hid (HL.out.later hb)
              replace k6 := cell_later hb k6
              replace k7 := cell_later hb k7
              clear hb MC k0 k8 k9 k10 k11
              go_wp2_with (first | (refine wl_load w.heap.size 0 s (by kernel_rfl) HL.out ?_) | fail)
              refine (RG.out _).mono ?_
              rintro e w2 ⟨rfl, hb⟩
              replace B2 := Lib.hid (w_below B2.out hb)
              replace k6 := cell_later hb k6
              replace k7 := cell_later hb k7
              clear hb RG HL
              go_wp2_with fail
              go_ret
              exact ⟨by rw [hE]; first | done | rfl, B2.out⟩
            | true =>
              rw [ho] at k6 hE
              cases hl : s.last with
              | false =>
                rw [hl] at k7 hE
                go_wp2_with fail
                refine (MC.out _).mono ?_
                rintro e w1 ⟨rfl, hb⟩
                replace B2 := Lib.hid (w_below B2.out hb)
                replace HL := Lib.hid (HL.out.later hb)
                replace k6 := cell_later hb k6
                replace k7 := cell_later hb k7
                clear hb MC k0 k8 k9 k10 k11
                go_wp2_with (first | (refine wl_load w.heap.size 0 s (by kernel_rfl) HL.out ?_) | fail)
                refine (RG.out _).mono ?_
                rintro e w2 ⟨rfl, hb⟩
                replace B2 := Lib.hid (w_below B2.out hb)
                replace k6 := cell_later hb k6
                replace k7 := cell_later hb k7
                clear hb RG HL
                go_wp2_with fail
                go_ret
                exact ⟨by rw [hE]; first | done | rfl, B2.out⟩
              | true =>
                rw [hl] at k7 hE
                go_wp2_with fail
                refine (MC.out _).mono ?_
                rintro e w1 ⟨rfl, hb⟩
                replace B2 := Lib.hid (w_below B2.out hb)
                replace HL := Lib.hid (HL.out.later hb)
                replace k6 := cell_later hb k6
                replace k7 := cell_later hb k7
                clear hb MC k0 k8 k9 k10 k11
                go_wp2_with (first | (refine wl_load w.heap.size 0 s (by kernel_rfl) HL.out ?_) | fail)
                refine (RG.out _).mono ?_
                rintro e w2 ⟨rfl, hb⟩
                replace B2 := Lib.hid (w_below B2.out hb)
                replace k6 := cell_later hb k6
                replace k7 := cell_later hb k7
                clear hb RG HL
                go_wp2_with fail
                go_ret
                exact ⟨by rw [hE]; first | done | rfl, B2.out⟩
        · have hE := Lib.hid (RM.out hx hk5 hm)
          rw [chkM_no hm] at MC
          clear RF RM RS RG hm hk5
          go_wp2_with fail
          refine (MC.out _).mono ?_
          rintro e w1 ⟨rfl, hb⟩
          replace B2 := Lib.hid (w_below B2.out hb)
          clear hb MC
          go_wp2_with fail
          go_ret
          exact ⟨by rw [hE.out]; first | done | rfl, B2.out⟩
      · have q5 : (s.kind == 5) = false := by simp [hk5]
        have hE := RS.out hx (fun e => absurd e hk5)
        clear RF RM RS hk5 MC
        generalize rngB s = R at *
        cases R with
        | false =>
          go_wp2_with (first | (refine wl_load w.heap.size 0 s (by kernel_rfl) HL.out ?_) | fail)
          refine (RG.out _).mono ?_
          rintro e w2 ⟨rfl, hb⟩
          replace B2 := Lib.hid (w_below B2.out hb)
          replace k6 := cell_later hb k6
          replace k7 := cell_later hb k7
          clear hb RG HL
          go_wp2_with fail
          go_ret
          exact ⟨by rw [hE]; first | done | rfl, B2.out⟩
        | true =>
          cases ho : s.obl with
          | false =>
            rw [ho] at k6 hE
            go_wp2_with (first | (refine wl_load w.heap.size 0 s (by kernel_rfl) HL.out ?_) | fail)
            refine (RG.out _).mono ?_
            rintro e w2 ⟨rfl, hb⟩
            replace B2 := Lib.hid (w_below B2.out hb)
            replace k6 := cell_later hb k6
            replace k7 := cell_later hb k7
            clear hb RG HL
            go_wp2_with fail
            go_ret
            exact ⟨by rw [hE]; first | done | rfl, B2.out⟩
          | true =>
            rw [ho] at k6 hE
            cases hl : s.last with
            | false =>
              rw [hl] at k7 hE
              go_wp2_with (first | (refine wl_load w.heap.size 0 s (by kernel_rfl) HL.out ?_) | fail)
              refine (RG.out _).mono ?_
              rintro e w2 ⟨rfl, hb⟩
              replace B2 := Lib.hid (w_below B2.out hb)
              replace k6 := cell_later hb k6
              replace k7 := cell_later hb k7
              clear hb RG HL
              go_wp2_with fail
              go_ret
              exact ⟨by rw [hE]; first | done | rfl, B2.out⟩
            | true =>
              rw [hl] at k7 hE
              go_wp2_with (first | (refine wl_load w.heap.size 0 s (by kernel_rfl) HL.out ?_) | fail)
              refine (RG.out _).mono ?_
              rintro e w2 ⟨rfl, hb⟩
              replace B2 := Lib.hid (w_below B2.out hb)
              replace k6 := cell_later hb k6
              replace k7 := cell_later hb k7
              clear hb RG HL
              go_wp2_with fail
              go_ret
              exact ⟨by rw [hE]; first | done | rfl, B2.out⟩

end Go.Proofs.YtcomjcflllfobaaDoor
