/- What the reference keeps of a sign. -/
import Derived.Test.YtcomjcflllfobaaDoorSRefDa
import Derived.Test.YtcomjcflllfobaaDoorSRefC
namespace Go.Proofs.YtcomjcflllfobaaDoor
open Go.RowKit
attribute [local go_sem] sgA_g0 sgA_g1 sgA_g2 sgA_g3 sgA_g4 sgA_g5 sgA_g6 sgA_g7 sgA_g8 sgA_g9 sgA_g10 sgA_g11 sgA_g12 sgA_g13 sgA_g14 sgA_g15 sgA_g16

set_option maxRecDepth 100000 in
set_option maxHeartbeats 16000000 in
theorem rused_5 (s : Sg) (h : s.kind = 5) (w : World) : Calls Tryd.prog 46 #[sgv s] w fun e w' => e = .returned (sgv (useS s)) ∧ Below w.heap.size w w' := by
  have HU : useS s = ⟨5, 0, 0, 0, false, 0, false, false, s.m0, s.m1, s.m2, s.m3, s.stk, 0, 0, 0, 0⟩ := by unfold useS keepS; rw [h]; rfl
  rw [HU]
  have k0 : ((w.alloc (sgO s)).alloc zO).cell? ⟨w.heap.size, 0, none⟩ = some (.int .i64 5) := by have := ((sg_new w s).al zO).cell (j := 0) (v := .int .i64 s.kind) rfl; rw [h] at this; exact this
  have HS := Lib.hid (((sg_new w s).al zO).al (sgO (knS 5)))
  have HQ := Lib.hid (sg_new ((w.alloc (sgO s)).alloc zO) (knS 5))
  rw [World.size_alloc, World.size_alloc] at HQ
  have HP := Lib.hid (show HoldsB (((w.alloc (sgO s)).alloc zO).alloc (sgO (knS 5))) (w.heap.size + 1) 27 (sgA zS) from by have := ((HoldsB.new (w.alloc (sgO s)) 27 (sgA zS)).al (sgO (knS 5))); rwa [World.size_alloc] at this)
  have BQ := Lib.hid (w_alloc (w_alloc (w_alloc (w_refl w) (sgO s)) zO) (sgO (knS 5)))
  clear HU
  go_enter Tryd.func46, Tryd.ntmps46
  go_upto_region 2 with (first | (refine wl_box s (by kernel_rfl) ?_) | (refine wl_buildS _ (knS 5) (by kernel_rfl) ?_) | (refine wl_store0 (w.heap.size + 1 + 1) _ (knS 5) (by simp) (by kernel_rfl) (by kernel_rfl) rfl ?_) | fail)
  clear k0
  generalize ((w.alloc (sgO s)).alloc zO).alloc (sgO (knS 5)) = y at *
  have k0 : y.cell? ⟨w.heap.size, 0, none⟩ = some (.int .i64 5) := by have := HS.out.cell (j := 0) (v := .int .i64 s.kind) rfl; rw [h] at this; exact this
  have k8 := HS.out.cell (j := 8) (v := (.int .i64 s.m0)) rfl
  have k9 := HS.out.cell (j := 9) (v := (.int .i64 s.m1)) rfl
  have k10 := HS.out.cell (j := 10) (v := (.int .i64 s.m2)) rfl
  have k11 := HS.out.cell (j := 11) (v := (.int .i64 s.m3)) rfl
  have k12 := HS.out.cell (j := 12) (v := (.bool s.stk)) rfl
  have nb : w.heap.size ≠ w.heap.size + 1 + 1 := by omega
  have np : w.heap.size + 1 ≠ w.heap.size + 1 + 1 := by omega
  clear h
  go_wp2_with fail
  refine wp_region_held_drew (S := (fun W => W.cell? ⟨w.heap.size, 8, none⟩ = some (.int .i64 s.m0) ∧ W.cell? ⟨w.heap.size, 9, none⟩ = some (.int .i64 s.m1) ∧ W.cell? ⟨w.heap.size, 10, none⟩ = some (.int .i64 s.m2) ∧ W.cell? ⟨w.heap.size, 11, none⟩ = some (.int .i64 s.m3) ∧ W.cell? ⟨w.heap.size, 12, none⟩ = some (.bool s.stk))) (by kernel_rfl) ?_ (fun hHeld => ?_)
  · exact ⟨k8, k9, k10, k11, k12⟩
  clear hHeld k0
  have FX := Lib.hid (show HoldsB (World.drew y) w.heap.size 27 (sgA s) ∧ HoldsB (World.drew y) (w.heap.size + 1 + 1) 27 (sgA (knS 5)) ∧ HoldsB (World.drew y) (w.heap.size + 1) 27 (sgA zS) ∧ Below w.heap.size w (World.drew y) from ⟨HS.out.later (w_refl _).drew, HQ.out.later (w_refl _).drew, HP.out.later (w_refl _).drew, BQ.out.drew⟩)
  clear HS HQ HP BQ k8 k9 k10 k11 k12
  generalize World.drew y = z0 at *
  refine wpAnyH_take (i := 0) (v := .pointer (some ⟨w.heap.size, 8, none⟩)) rfl (by kernel_rfl) (by kernel_rfl) (by kernel_rfl) (fun _ _ _ h => h) (Or.inl ⟨by kernel_rfl, fun _ _ => by go_simp⟩) ⟨FX.out.1.cell (j := 8) rfl, FX.out.1.cell (j := 9) rfl, FX.out.1.cell (j := 10) rfl, FX.out.1.cell (j := 11) rfl, FX.out.1.cell (j := 12) rfl⟩ ?_
  refine wpAnyH_take (i := 1) (v := (.agg #[(.int .i64 s.m0), (.int .i64 s.m1), (.int .i64 s.m2), (.int .i64 s.m3)])) rfl (by kernel_rfl) (by kernel_rfl) (by kernel_rfl) (fun _ _ _ h => h) (Or.inl ⟨by kernel_rfl, fun W hW => by (obtain ⟨c8, c9, c10, c11, c12⟩ := hW; go_simp)⟩) ⟨FX.out.1.cell (j := 8) rfl, FX.out.1.cell (j := 9) rfl, FX.out.1.cell (j := 10) rfl, FX.out.1.cell (j := 11) rfl, FX.out.1.cell (j := 12) rfl⟩ ?_
  refine wpAnyH_take (i := 2) (v := .pointer (some ⟨w.heap.size, 12, none⟩)) rfl (by kernel_rfl) (by kernel_rfl) (by kernel_rfl) (fun _ _ _ h => h) (Or.inl ⟨by kernel_rfl, fun _ _ => by go_simp⟩) ⟨FX.out.1.cell (j := 8) rfl, FX.out.1.cell (j := 9) rfl, FX.out.1.cell (j := 10) rfl, FX.out.1.cell (j := 11) rfl, FX.out.1.cell (j := 12) rfl⟩ ?_
  refine wpAnyH_take (i := 3) (v := (.bool s.stk)) rfl (by kernel_rfl) (by kernel_rfl) (by kernel_rfl) (fun _ _ _ h => h) (Or.inl ⟨by kernel_rfl, fun W hW => by (obtain ⟨c8, c9, c10, c11, c12⟩ := hW; go_simp)⟩) ⟨FX.out.1.cell (j := 8) rfl, FX.out.1.cell (j := 9) rfl, FX.out.1.cell (j := 10) rfl, FX.out.1.cell (j := 11) rfl, FX.out.1.cell (j := 12) rfl⟩ ?_
  refine wpAnyH_take (i := 4) (v := .pointer (some ⟨w.heap.size + 1 + 1, 8, none⟩)) rfl (by kernel_rfl) (by kernel_rfl) (by kernel_rfl) (fun _ _ _ h => h) (Or.inl ⟨by kernel_rfl, fun _ _ => by go_simp⟩) ⟨FX.out.1.cell (j := 8) rfl, FX.out.1.cell (j := 9) rfl, FX.out.1.cell (j := 10) rfl, FX.out.1.cell (j := 11) rfl, FX.out.1.cell (j := 12) rfl⟩ ?_
  simp only [Act.put, List.getElem_toArray, List.getElem_cons_succ, List.getElem_cons_zero, List.setIfInBounds_toArray, List.set_cons_succ, List.set_cons_zero]
  have x8 := FX.out.2.1.cell (j := 8) rfl
  have x9 := FX.out.2.1.cell (j := 9) rfl
  have x10 := FX.out.2.1.cell (j := 10) rfl
  have x11 := FX.out.2.1.cell (j := 11) rfl
  have ff := FX.out.2.1.frozen
  refine wpAnyH_ready (rs := [5]) (by kernel_rfl) (by simp) ?_
  refine AllReadyH.cons rfl (fun K hK => ?_) AllReadyH.nil
  rw [if_pos (by kernel_rfl)]
  go_simp
  replace FX := Lib.hid (show HoldsB ((((z0.setCell ⟨w.heap.size + 1 + 1, 8, none⟩ (.int .i64 s.m0)).setCell ⟨w.heap.size + 1 + 1, 9, none⟩ (.int .i64 s.m1)).setCell ⟨w.heap.size + 1 + 1, 10, none⟩ (.int .i64 s.m2)).setCell ⟨w.heap.size + 1 + 1, 11, none⟩ (.int .i64 s.m3)) w.heap.size 27 (sgA s) ∧ HoldsB ((((z0.setCell ⟨w.heap.size + 1 + 1, 8, none⟩ (.int .i64 s.m0)).setCell ⟨w.heap.size + 1 + 1, 9, none⟩ (.int .i64 s.m1)).setCell ⟨w.heap.size + 1 + 1, 10, none⟩ (.int .i64 s.m2)).setCell ⟨w.heap.size + 1 + 1, 11, none⟩ (.int .i64 s.m3)) (w.heap.size + 1 + 1) 27 (((((sgA (knS 5)).setIfInBounds 8 (.int .i64 s.m0)).setIfInBounds 9 (.int .i64 s.m1)).setIfInBounds 10 (.int .i64 s.m2)).setIfInBounds 11 (.int .i64 s.m3)) ∧ HoldsB ((((z0.setCell ⟨w.heap.size + 1 + 1, 8, none⟩ (.int .i64 s.m0)).setCell ⟨w.heap.size + 1 + 1, 9, none⟩ (.int .i64 s.m1)).setCell ⟨w.heap.size + 1 + 1, 10, none⟩ (.int .i64 s.m2)).setCell ⟨w.heap.size + 1 + 1, 11, none⟩ (.int .i64 s.m3)) (w.heap.size + 1) 27 (sgA zS) ∧ Below w.heap.size w ((((z0.setCell ⟨w.heap.size + 1 + 1, 8, none⟩ (.int .i64 s.m0)).setCell ⟨w.heap.size + 1 + 1, 9, none⟩ (.int .i64 s.m1)).setCell ⟨w.heap.size + 1 + 1, 10, none⟩ (.int .i64 s.m2)).setCell ⟨w.heap.size + 1 + 1, 11, none⟩ (.int .i64 s.m3)) from ⟨((((FX.out.1.other nb 8 (.int .i64 s.m0)).other nb 9 (.int .i64 s.m1)).other nb 10 (.int .i64 s.m2)).other nb 11 (.int .i64 s.m3)), ((((FX.out.2.1.set 8 (.int .i64 s.m0)).set 9 (.int .i64 s.m1)).set 10 (.int .i64 s.m2)).set 11 (.int .i64 s.m3)), ((((FX.out.2.2.1.other np 8 (.int .i64 s.m0)).other np 9 (.int .i64 s.m1)).other np 10 (.int .i64 s.m2)).other np 11 (.int .i64 s.m3)), (w_put (b := w.heap.size + 1 + 1) (w_put (b := w.heap.size + 1 + 1) (w_put (b := w.heap.size + 1 + 1) (w_put (b := w.heap.size + 1 + 1) FX.out.2.2.2 (by omega) 8 (.int .i64 s.m0)) (by omega) 9 (.int .i64 s.m1)) (by omega) 10 (.int .i64 s.m2)) (by omega) 11 (.int .i64 s.m3))⟩)
  refine hK.out _ _ ⟨FX.out.1.cell (j := 8) rfl, FX.out.1.cell (j := 9) rfl, FX.out.1.cell (j := 10) rfl, FX.out.1.cell (j := 11) rfl, FX.out.1.cell (j := 12) rfl⟩ (fun _ => ?_)
  clear hK K ff x8 x9 x10 x11
  generalize ((((z0.setCell ⟨w.heap.size + 1 + 1, 8, none⟩ (.int .i64 s.m0)).setCell ⟨w.heap.size + 1 + 1, 9, none⟩ (.int .i64 s.m1)).setCell ⟨w.heap.size + 1 + 1, 10, none⟩ (.int .i64 s.m2)).setCell ⟨w.heap.size + 1 + 1, 11, none⟩ (.int .i64 s.m3)) = z1 at *
  refine wpAnyH_take (i := 6) (v := .pointer (some ⟨w.heap.size + 1 + 1, 12, none⟩)) rfl (by kernel_rfl) (by kernel_rfl) (by kernel_rfl) (fun _ _ _ h => h) (Or.inl ⟨by kernel_rfl, fun _ _ => by go_simp⟩) ⟨FX.out.1.cell (j := 8) rfl, FX.out.1.cell (j := 9) rfl, FX.out.1.cell (j := 10) rfl, FX.out.1.cell (j := 11) rfl, FX.out.1.cell (j := 12) rfl⟩ ?_
  simp only [Act.put, List.getElem_toArray, List.getElem_cons_succ, List.getElem_cons_zero, List.setIfInBounds_toArray, List.set_cons_succ, List.set_cons_zero]
  have x12 := FX.out.2.1.cell (j := 12) rfl
  have ff := FX.out.2.1.frozen
  refine wpAnyH_ready (rs := [7]) (by kernel_rfl) (by simp) ?_
  refine AllReadyH.cons rfl (fun K hK => ?_) AllReadyH.nil
  rw [if_pos (by kernel_rfl)]
  go_simp
  replace FX := Lib.hid (show HoldsB (z1.setCell ⟨w.heap.size + 1 + 1, 12, none⟩ (.bool s.stk)) w.heap.size 27 (sgA s) ∧ HoldsB (z1.setCell ⟨w.heap.size + 1 + 1, 12, none⟩ (.bool s.stk)) (w.heap.size + 1 + 1) 27 ((((((sgA (knS 5)).setIfInBounds 8 (.int .i64 s.m0)).setIfInBounds 9 (.int .i64 s.m1)).setIfInBounds 10 (.int .i64 s.m2)).setIfInBounds 11 (.int .i64 s.m3)).setIfInBounds 12 (.bool s.stk)) ∧ HoldsB (z1.setCell ⟨w.heap.size + 1 + 1, 12, none⟩ (.bool s.stk)) (w.heap.size + 1) 27 (sgA zS) ∧ Below w.heap.size w (z1.setCell ⟨w.heap.size + 1 + 1, 12, none⟩ (.bool s.stk)) from ⟨(FX.out.1.other nb 12 (.bool s.stk)), (FX.out.2.1.set 12 (.bool s.stk)), (FX.out.2.2.1.other np 12 (.bool s.stk)), (w_put (b := w.heap.size + 1 + 1) FX.out.2.2.2 (by omega) 12 (.bool s.stk))⟩)
  refine hK.out _ _ ⟨FX.out.1.cell (j := 8) rfl, FX.out.1.cell (j := 9) rfl, FX.out.1.cell (j := 10) rfl, FX.out.1.cell (j := 11) rfl, FX.out.1.cell (j := 12) rfl⟩ (fun _ => ?_)
  clear hK K ff x12
  generalize (z1.setCell ⟨w.heap.size + 1 + 1, 12, none⟩ (.bool s.stk)) = z2 at *
  refine wpAnyH_done (by kernel_rfl) ?_ _
  have H2 := Lib.hid (show HoldsB z2 (w.heap.size + 1 + 1) 27 (sgA ⟨5, 0, 0, 0, false, 0, false, false, s.m0, s.m1, s.m2, s.m3, s.stk, 0, 0, 0, 0⟩) from FX.out.2.1)
  have H3 := Lib.hid FX.out.2.2.1
  have B2 := Lib.hid FX.out.2.2.2
  clear FX
  go_wp2_with (first | (refine wl_load (w.heap.size + 1 + 1) 0 ⟨5, 0, 0, 0, false, 0, false, false, s.m0, s.m1, s.m2, s.m3, s.stk, 0, 0, 0, 0⟩ (by kernel_rfl) H2.out.sg ?_) | (refine wl_rowS (w.heap.size + 1) _ ⟨5, 0, 0, 0, false, 0, false, false, s.m0, s.m1, s.m2, s.m3, s.stk, 0, 0, 0, 0⟩ H3.out (by kernel_rfl) (by kernel_rfl) rfl ?_) | fail)
  intro W' h1 h2 h3
  have B5 := Lib.hid (h2 _ _ B2.out (by omega))
  clear h2 h3
  go_wp2_with fail
  exact bodyPost_ret (res_sg rfl (by kernel_rfl) h1.sg) rfl ⟨rfl, B5.out⟩
set_option maxRecDepth 100000 in
set_option maxHeartbeats 16000000 in
theorem rused_6 (s : Sg) (h : s.kind = 6) (w : World) : Calls Tryd.prog 46 #[sgv s] w fun e w' => e = .returned (sgv (useS s)) ∧ Below w.heap.size w w' := by
  have HU : useS s = ⟨6, 0, 0, 0, false, 0, false, false, 0, 0, 0, 0, false, s.n, s.d, 0, 0⟩ := by unfold useS keepS; rw [h]; rfl
  rw [HU]
  have k0 : ((w.alloc (sgO s)).alloc zO).cell? ⟨w.heap.size, 0, none⟩ = some (.int .i64 6) := by have := ((sg_new w s).al zO).cell (j := 0) (v := .int .i64 s.kind) rfl; rw [h] at this; exact this
  have HS := Lib.hid (((sg_new w s).al zO).al (sgO (knS 6)))
  have HQ := Lib.hid (sg_new ((w.alloc (sgO s)).alloc zO) (knS 6))
  rw [World.size_alloc, World.size_alloc] at HQ
  have HP := Lib.hid (show HoldsB (((w.alloc (sgO s)).alloc zO).alloc (sgO (knS 6))) (w.heap.size + 1) 27 (sgA zS) from by have := ((HoldsB.new (w.alloc (sgO s)) 27 (sgA zS)).al (sgO (knS 6))); rwa [World.size_alloc] at this)
  have BQ := Lib.hid (w_alloc (w_alloc (w_alloc (w_refl w) (sgO s)) zO) (sgO (knS 6)))
  clear HU
  go_enter Tryd.func46, Tryd.ntmps46
  go_upto_region 2 with (first | (refine wl_box s (by kernel_rfl) ?_) | (refine wl_buildS _ (knS 6) (by kernel_rfl) ?_) | (refine wl_store0 (w.heap.size + 1 + 1) _ (knS 6) (by simp) (by kernel_rfl) (by kernel_rfl) rfl ?_) | fail)
  clear k0
  generalize ((w.alloc (sgO s)).alloc zO).alloc (sgO (knS 6)) = y at *
  have k0 : y.cell? ⟨w.heap.size, 0, none⟩ = some (.int .i64 6) := by have := HS.out.cell (j := 0) (v := .int .i64 s.kind) rfl; rw [h] at this; exact this
  have k13 := HS.out.cell (j := 13) (v := (.int .i64 s.n)) rfl
  have k14 := HS.out.cell (j := 14) (v := (.int .i64 s.d)) rfl
  have nb : w.heap.size ≠ w.heap.size + 1 + 1 := by omega
  have np : w.heap.size + 1 ≠ w.heap.size + 1 + 1 := by omega
  clear h
  go_wp2_with fail
  refine wp_region_held_drew (S := (fun W => W.cell? ⟨w.heap.size, 13, none⟩ = some (.int .i64 s.n) ∧ W.cell? ⟨w.heap.size, 14, none⟩ = some (.int .i64 s.d))) (by kernel_rfl) ?_ (fun hHeld => ?_)
  · exact ⟨k13, k14⟩
  clear hHeld k0
  have FX := Lib.hid (show HoldsB (World.drew y) w.heap.size 27 (sgA s) ∧ HoldsB (World.drew y) (w.heap.size + 1 + 1) 27 (sgA (knS 6)) ∧ HoldsB (World.drew y) (w.heap.size + 1) 27 (sgA zS) ∧ Below w.heap.size w (World.drew y) from ⟨HS.out.later (w_refl _).drew, HQ.out.later (w_refl _).drew, HP.out.later (w_refl _).drew, BQ.out.drew⟩)
  clear HS HQ HP BQ k13 k14
  generalize World.drew y = z0 at *
  refine wpAnyH_take (i := 0) (v := .pointer (some ⟨w.heap.size, 13, none⟩)) rfl (by kernel_rfl) (by kernel_rfl) (by kernel_rfl) (fun _ _ _ h => h) (Or.inl ⟨by kernel_rfl, fun _ _ => by go_simp⟩) ⟨FX.out.1.cell (j := 13) rfl, FX.out.1.cell (j := 14) rfl⟩ ?_
  refine wpAnyH_take (i := 1) (v := (.int .i64 s.n)) rfl (by kernel_rfl) (by kernel_rfl) (by kernel_rfl) (fun _ _ _ h => h) (Or.inl ⟨by kernel_rfl, fun W hW => by (obtain ⟨c13, c14⟩ := hW; go_simp)⟩) ⟨FX.out.1.cell (j := 13) rfl, FX.out.1.cell (j := 14) rfl⟩ ?_
  refine wpAnyH_take (i := 2) (v := .pointer (some ⟨w.heap.size, 14, none⟩)) rfl (by kernel_rfl) (by kernel_rfl) (by kernel_rfl) (fun _ _ _ h => h) (Or.inl ⟨by kernel_rfl, fun _ _ => by go_simp⟩) ⟨FX.out.1.cell (j := 13) rfl, FX.out.1.cell (j := 14) rfl⟩ ?_
  refine wpAnyH_take (i := 3) (v := (.int .i64 s.d)) rfl (by kernel_rfl) (by kernel_rfl) (by kernel_rfl) (fun _ _ _ h => h) (Or.inl ⟨by kernel_rfl, fun W hW => by (obtain ⟨c13, c14⟩ := hW; go_simp)⟩) ⟨FX.out.1.cell (j := 13) rfl, FX.out.1.cell (j := 14) rfl⟩ ?_
  refine wpAnyH_take (i := 4) (v := .pointer (some ⟨w.heap.size + 1 + 1, 13, none⟩)) rfl (by kernel_rfl) (by kernel_rfl) (by kernel_rfl) (fun _ _ _ h => h) (Or.inl ⟨by kernel_rfl, fun _ _ => by go_simp⟩) ⟨FX.out.1.cell (j := 13) rfl, FX.out.1.cell (j := 14) rfl⟩ ?_
  simp only [Act.put, List.getElem_toArray, List.getElem_cons_succ, List.getElem_cons_zero, List.setIfInBounds_toArray, List.set_cons_succ, List.set_cons_zero]
  have x13 := FX.out.2.1.cell (j := 13) rfl
  have ff := FX.out.2.1.frozen
  refine wpAnyH_ready (rs := [5]) (by kernel_rfl) (by simp) ?_
  refine AllReadyH.cons rfl (fun K hK => ?_) AllReadyH.nil
  rw [if_pos (by kernel_rfl)]
  go_simp
  replace FX := Lib.hid (show HoldsB (z0.setCell ⟨w.heap.size + 1 + 1, 13, none⟩ (.int .i64 s.n)) w.heap.size 27 (sgA s) ∧ HoldsB (z0.setCell ⟨w.heap.size + 1 + 1, 13, none⟩ (.int .i64 s.n)) (w.heap.size + 1 + 1) 27 ((sgA (knS 6)).setIfInBounds 13 (.int .i64 s.n)) ∧ HoldsB (z0.setCell ⟨w.heap.size + 1 + 1, 13, none⟩ (.int .i64 s.n)) (w.heap.size + 1) 27 (sgA zS) ∧ Below w.heap.size w (z0.setCell ⟨w.heap.size + 1 + 1, 13, none⟩ (.int .i64 s.n)) from ⟨(FX.out.1.other nb 13 (.int .i64 s.n)), (FX.out.2.1.set 13 (.int .i64 s.n)), (FX.out.2.2.1.other np 13 (.int .i64 s.n)), (w_put (b := w.heap.size + 1 + 1) FX.out.2.2.2 (by omega) 13 (.int .i64 s.n))⟩)
  refine hK.out _ _ ⟨FX.out.1.cell (j := 13) rfl, FX.out.1.cell (j := 14) rfl⟩ (fun _ => ?_)
  clear hK K ff x13
  generalize (z0.setCell ⟨w.heap.size + 1 + 1, 13, none⟩ (.int .i64 s.n)) = z1 at *
  refine wpAnyH_take (i := 6) (v := .pointer (some ⟨w.heap.size + 1 + 1, 14, none⟩)) rfl (by kernel_rfl) (by kernel_rfl) (by kernel_rfl) (fun _ _ _ h => h) (Or.inl ⟨by kernel_rfl, fun _ _ => by go_simp⟩) ⟨FX.out.1.cell (j := 13) rfl, FX.out.1.cell (j := 14) rfl⟩ ?_
  simp only [Act.put, List.getElem_toArray, List.getElem_cons_succ, List.getElem_cons_zero, List.setIfInBounds_toArray, List.set_cons_succ, List.set_cons_zero]
  have x14 := FX.out.2.1.cell (j := 14) rfl
  have ff := FX.out.2.1.frozen
  refine wpAnyH_ready (rs := [7]) (by kernel_rfl) (by simp) ?_
  refine AllReadyH.cons rfl (fun K hK => ?_) AllReadyH.nil
  rw [if_pos (by kernel_rfl)]
  go_simp
  replace FX := Lib.hid (show HoldsB (z1.setCell ⟨w.heap.size + 1 + 1, 14, none⟩ (.int .i64 s.d)) w.heap.size 27 (sgA s) ∧ HoldsB (z1.setCell ⟨w.heap.size + 1 + 1, 14, none⟩ (.int .i64 s.d)) (w.heap.size + 1 + 1) 27 (((sgA (knS 6)).setIfInBounds 13 (.int .i64 s.n)).setIfInBounds 14 (.int .i64 s.d)) ∧ HoldsB (z1.setCell ⟨w.heap.size + 1 + 1, 14, none⟩ (.int .i64 s.d)) (w.heap.size + 1) 27 (sgA zS) ∧ Below w.heap.size w (z1.setCell ⟨w.heap.size + 1 + 1, 14, none⟩ (.int .i64 s.d)) from ⟨(FX.out.1.other nb 14 (.int .i64 s.d)), (FX.out.2.1.set 14 (.int .i64 s.d)), (FX.out.2.2.1.other np 14 (.int .i64 s.d)), (w_put (b := w.heap.size + 1 + 1) FX.out.2.2.2 (by omega) 14 (.int .i64 s.d))⟩)
  refine hK.out _ _ ⟨FX.out.1.cell (j := 13) rfl, FX.out.1.cell (j := 14) rfl⟩ (fun _ => ?_)
  clear hK K ff x14
  generalize (z1.setCell ⟨w.heap.size + 1 + 1, 14, none⟩ (.int .i64 s.d)) = z2 at *
  refine wpAnyH_done (by kernel_rfl) ?_ _
  have H2 := Lib.hid (show HoldsB z2 (w.heap.size + 1 + 1) 27 (sgA ⟨6, 0, 0, 0, false, 0, false, false, 0, 0, 0, 0, false, s.n, s.d, 0, 0⟩) from FX.out.2.1)
  have H3 := Lib.hid FX.out.2.2.1
  have B2 := Lib.hid FX.out.2.2.2
  clear FX
  go_wp2_with (first | (refine wl_load (w.heap.size + 1 + 1) 0 ⟨6, 0, 0, 0, false, 0, false, false, 0, 0, 0, 0, false, s.n, s.d, 0, 0⟩ (by kernel_rfl) H2.out.sg ?_) | (refine wl_rowS (w.heap.size + 1) _ ⟨6, 0, 0, 0, false, 0, false, false, 0, 0, 0, 0, false, s.n, s.d, 0, 0⟩ H3.out (by kernel_rfl) (by kernel_rfl) rfl ?_) | fail)
  intro W' h1 h2 h3
  have B5 := Lib.hid (h2 _ _ B2.out (by omega))
  clear h2 h3
  go_wp2_with fail
  exact bodyPost_ret (res_sg rfl (by kernel_rfl) h1.sg) rfl ⟨rfl, B5.out⟩
set_option maxRecDepth 100000 in
set_option maxHeartbeats 16000000 in
theorem rused_7 (s : Sg) (h : s.kind = 7) (w : World) : Calls Tryd.prog 46 #[sgv s] w fun e w' => e = .returned (sgv (useS s)) ∧ Below w.heap.size w w' := by
  have HU : useS s = ⟨7, 0, 0, 0, false, 0, false, false, 0, 0, 0, 0, false, 0, 0, s.c0, s.c1⟩ := by unfold useS keepS; rw [h]; rfl
  rw [HU]
  have k0 : ((w.alloc (sgO s)).alloc zO).cell? ⟨w.heap.size, 0, none⟩ = some (.int .i64 7) := by have := ((sg_new w s).al zO).cell (j := 0) (v := .int .i64 s.kind) rfl; rw [h] at this; exact this
  have HS := Lib.hid (((sg_new w s).al zO).al (sgO (knS 7)))
  have HQ := Lib.hid (sg_new ((w.alloc (sgO s)).alloc zO) (knS 7))
  rw [World.size_alloc, World.size_alloc] at HQ
  have HP := Lib.hid (show HoldsB (((w.alloc (sgO s)).alloc zO).alloc (sgO (knS 7))) (w.heap.size + 1) 27 (sgA zS) from by have := ((HoldsB.new (w.alloc (sgO s)) 27 (sgA zS)).al (sgO (knS 7))); rwa [World.size_alloc] at this)
  have BQ := Lib.hid (w_alloc (w_alloc (w_alloc (w_refl w) (sgO s)) zO) (sgO (knS 7)))
  clear HU
  go_enter Tryd.func46, Tryd.ntmps46
  go_upto_region 2 with (first | (refine wl_box s (by kernel_rfl) ?_) | (refine wl_buildS _ (knS 7) (by kernel_rfl) ?_) | (refine wl_store0 (w.heap.size + 1 + 1) _ (knS 7) (by simp) (by kernel_rfl) (by kernel_rfl) rfl ?_) | fail)
  clear k0
  generalize ((w.alloc (sgO s)).alloc zO).alloc (sgO (knS 7)) = y at *
  have k0 : y.cell? ⟨w.heap.size, 0, none⟩ = some (.int .i64 7) := by have := HS.out.cell (j := 0) (v := .int .i64 s.kind) rfl; rw [h] at this; exact this
  have k15 := HS.out.cell (j := 15) (v := (.int .i64 s.c0)) rfl
  have k16 := HS.out.cell (j := 16) (v := (.int .i64 s.c1)) rfl
  have nb : w.heap.size ≠ w.heap.size + 1 + 1 := by omega
  have np : w.heap.size + 1 ≠ w.heap.size + 1 + 1 := by omega
  clear h
  have x15 := HQ.out.cell (j := 15) rfl
  have x16 := HQ.out.cell (j := 16) rfl
  have ff := HQ.out.frozen
  go_upto_region 18 with (fail)
  have H2 := Lib.hid (show HoldsB ((y.setCell ⟨w.heap.size + 1 + 1, 15, none⟩ (.int .i64 s.c0)).setCell ⟨w.heap.size + 1 + 1, 16, none⟩ (.int .i64 s.c1)) (w.heap.size + 1 + 1) 27 (sgA ⟨7, 0, 0, 0, false, 0, false, false, 0, 0, 0, 0, false, 0, 0, s.c0, s.c1⟩) from ((HQ.out.set 15 (.int .i64 s.c0)).set 16 (.int .i64 s.c1)))
  have H3 := Lib.hid ((HP.out.other np 15 (.int .i64 s.c0)).other np 16 (.int .i64 s.c1))
  have B2 := Lib.hid (w_put (b := w.heap.size + 1 + 1) (w_put (b := w.heap.size + 1 + 1) BQ.out (by omega) 15 (.int .i64 s.c0)) (by omega) 16 (.int .i64 s.c1))
  clear HQ HP BQ HS k0 ff k15 x15 k16 x16
  generalize ((y.setCell ⟨w.heap.size + 1 + 1, 15, none⟩ (.int .i64 s.c0)).setCell ⟨w.heap.size + 1 + 1, 16, none⟩ (.int .i64 s.c1)) = z at *
  go_wp2_with (first | (refine wl_load (w.heap.size + 1 + 1) 0 ⟨7, 0, 0, 0, false, 0, false, false, 0, 0, 0, 0, false, 0, 0, s.c0, s.c1⟩ (by kernel_rfl) H2.out.sg ?_) | (refine wl_rowS (w.heap.size + 1) _ ⟨7, 0, 0, 0, false, 0, false, false, 0, 0, 0, 0, false, 0, 0, s.c0, s.c1⟩ H3.out (by kernel_rfl) (by kernel_rfl) rfl ?_) | fail)
  intro W' h1 h2 h3
  have B5 := Lib.hid (h2 _ _ B2.out (by omega))
  clear h2 h3
  go_wp2_with fail
  exact bodyPost_ret (res_sg rfl (by kernel_rfl) h1.sg) rfl ⟨rfl, B5.out⟩
set_option maxRecDepth 100000 in
set_option maxHeartbeats 16000000 in
theorem rused_8 (s : Sg) (h : s.kind = 8) (w : World) : Calls Tryd.prog 46 #[sgv s] w fun e w' => e = .returned (sgv (useS s)) ∧ Below w.heap.size w w' := by
  have HU : useS s = ⟨8, 0, 0, 0, false, 0, false, false, 0, 0, 0, 0, false, s.n, 0, 0, 0⟩ := by unfold useS keepS; rw [h]; rfl
  rw [HU]
  have k0 : ((w.alloc (sgO s)).alloc zO).cell? ⟨w.heap.size, 0, none⟩ = some (.int .i64 8) := by have := ((sg_new w s).al zO).cell (j := 0) (v := .int .i64 s.kind) rfl; rw [h] at this; exact this
  have HS := Lib.hid (((sg_new w s).al zO).al (sgO (knS 8)))
  have HQ := Lib.hid (sg_new ((w.alloc (sgO s)).alloc zO) (knS 8))
  rw [World.size_alloc, World.size_alloc] at HQ
  have HP := Lib.hid (show HoldsB (((w.alloc (sgO s)).alloc zO).alloc (sgO (knS 8))) (w.heap.size + 1) 27 (sgA zS) from by have := ((HoldsB.new (w.alloc (sgO s)) 27 (sgA zS)).al (sgO (knS 8))); rwa [World.size_alloc] at this)
  have BQ := Lib.hid (w_alloc (w_alloc (w_alloc (w_refl w) (sgO s)) zO) (sgO (knS 8)))
  clear HU
  go_enter Tryd.func46, Tryd.ntmps46
  go_upto_region 2 with (first | (refine wl_box s (by kernel_rfl) ?_) | (refine wl_buildS _ (knS 8) (by kernel_rfl) ?_) | (refine wl_store0 (w.heap.size + 1 + 1) _ (knS 8) (by simp) (by kernel_rfl) (by kernel_rfl) rfl ?_) | fail)
  clear k0
  generalize ((w.alloc (sgO s)).alloc zO).alloc (sgO (knS 8)) = y at *
  have k0 : y.cell? ⟨w.heap.size, 0, none⟩ = some (.int .i64 8) := by have := HS.out.cell (j := 0) (v := .int .i64 s.kind) rfl; rw [h] at this; exact this
  have k13 := HS.out.cell (j := 13) (v := (.int .i64 s.n)) rfl
  have nb : w.heap.size ≠ w.heap.size + 1 + 1 := by omega
  have np : w.heap.size + 1 ≠ w.heap.size + 1 + 1 := by omega
  clear h
  have x13 := HQ.out.cell (j := 13) rfl
  have ff := HQ.out.frozen
  go_upto_region 18 with (fail)
  have H2 := Lib.hid (show HoldsB (y.setCell ⟨w.heap.size + 1 + 1, 13, none⟩ (.int .i64 s.n)) (w.heap.size + 1 + 1) 27 (sgA ⟨8, 0, 0, 0, false, 0, false, false, 0, 0, 0, 0, false, s.n, 0, 0, 0⟩) from (HQ.out.set 13 (.int .i64 s.n)))
  have H3 := Lib.hid (HP.out.other np 13 (.int .i64 s.n))
  have B2 := Lib.hid (w_put (b := w.heap.size + 1 + 1) BQ.out (by omega) 13 (.int .i64 s.n))
  clear HQ HP BQ HS k0 ff k13 x13
  generalize (y.setCell ⟨w.heap.size + 1 + 1, 13, none⟩ (.int .i64 s.n)) = z at *
  go_wp2_with (first | (refine wl_load (w.heap.size + 1 + 1) 0 ⟨8, 0, 0, 0, false, 0, false, false, 0, 0, 0, 0, false, s.n, 0, 0, 0⟩ (by kernel_rfl) H2.out.sg ?_) | (refine wl_rowS (w.heap.size + 1) _ ⟨8, 0, 0, 0, false, 0, false, false, 0, 0, 0, 0, false, s.n, 0, 0, 0⟩ H3.out (by kernel_rfl) (by kernel_rfl) rfl ?_) | fail)
  intro W' h1 h2 h3
  have B5 := Lib.hid (h2 _ _ B2.out (by omega))
  clear h2 h3
  go_wp2_with fail
  exact bodyPost_ret (res_sg rfl (by kernel_rfl) h1.sg) rfl ⟨rfl, B5.out⟩
set_option maxRecDepth 100000 in
set_option maxHeartbeats 16000000 in
theorem rused_9 (s : Sg) (h : s.kind = 9) (w : World) : Calls Tryd.prog 46 #[sgv s] w fun e w' => e = .returned (sgv (useS s)) ∧ Below w.heap.size w w' := by
  have HU : useS s = ⟨9, 0, 0, 0, false, 0, false, false, 0, 0, 0, 0, false, 0, 0, 0, 0⟩ := by unfold useS keepS; rw [h]; rfl
  rw [HU]
  have k0 : ((w.alloc (sgO s)).alloc zO).cell? ⟨w.heap.size, 0, none⟩ = some (.int .i64 9) := by have := ((sg_new w s).al zO).cell (j := 0) (v := .int .i64 s.kind) rfl; rw [h] at this; exact this
  have HS := Lib.hid (((sg_new w s).al zO).al (sgO (knS 9)))
  have HQ := Lib.hid (sg_new ((w.alloc (sgO s)).alloc zO) (knS 9))
  rw [World.size_alloc, World.size_alloc] at HQ
  have HP := Lib.hid (show HoldsB (((w.alloc (sgO s)).alloc zO).alloc (sgO (knS 9))) (w.heap.size + 1) 27 (sgA zS) from by have := ((HoldsB.new (w.alloc (sgO s)) 27 (sgA zS)).al (sgO (knS 9))); rwa [World.size_alloc] at this)
  have BQ := Lib.hid (w_alloc (w_alloc (w_alloc (w_refl w) (sgO s)) zO) (sgO (knS 9)))
  clear HU
  go_enter Tryd.func46, Tryd.ntmps46
  go_upto_region 2 with (first | (refine wl_box s (by kernel_rfl) ?_) | (refine wl_buildS _ (knS 9) (by kernel_rfl) ?_) | (refine wl_store0 (w.heap.size + 1 + 1) _ (knS 9) (by simp) (by kernel_rfl) (by kernel_rfl) rfl ?_) | fail)
  clear k0
  generalize ((w.alloc (sgO s)).alloc zO).alloc (sgO (knS 9)) = y at *
  have k0 : y.cell? ⟨w.heap.size, 0, none⟩ = some (.int .i64 9) := by have := HS.out.cell (j := 0) (v := .int .i64 s.kind) rfl; rw [h] at this; exact this
  have nb : w.heap.size ≠ w.heap.size + 1 + 1 := by omega
  have np : w.heap.size + 1 ≠ w.heap.size + 1 + 1 := by omega
  clear h
  have ff := HQ.out.frozen
  go_upto_region 18 with (fail)
  have H2 := Lib.hid (show HoldsB y (w.heap.size + 1 + 1) 27 (sgA ⟨9, 0, 0, 0, false, 0, false, false, 0, 0, 0, 0, false, 0, 0, 0, 0⟩) from HQ.out)
  have H3 := Lib.hid HP.out
  have B2 := Lib.hid BQ.out
  clear HQ HP BQ HS k0 ff
  go_wp2_with (first | (refine wl_load (w.heap.size + 1 + 1) 0 ⟨9, 0, 0, 0, false, 0, false, false, 0, 0, 0, 0, false, 0, 0, 0, 0⟩ (by kernel_rfl) H2.out.sg ?_) | (refine wl_rowS (w.heap.size + 1) _ ⟨9, 0, 0, 0, false, 0, false, false, 0, 0, 0, 0, false, 0, 0, 0, 0⟩ H3.out (by kernel_rfl) (by kernel_rfl) rfl ?_) | fail)
  intro W' h1 h2 h3
  have B5 := Lib.hid (h2 _ _ B2.out (by omega))
  clear h2 h3
  go_wp2_with fail
  exact bodyPost_ret (res_sg rfl (by kernel_rfl) h1.sg) rfl ⟨rfl, B5.out⟩
set_option maxRecDepth 100000 in
set_option maxHeartbeats 16000000 in
theorem rused_10 (s : Sg) (h : s.kind = 10) (w : World) : Calls Tryd.prog 46 #[sgv s] w fun e w' => e = .returned (sgv (useS s)) ∧ Below w.heap.size w w' := by
  have HU : useS s = ⟨10, 0, 0, 0, false, 0, false, false, 0, 0, 0, 0, false, s.n, 0, 0, 0⟩ := by unfold useS keepS; rw [h]; rfl
  rw [HU]
  have k0 : ((w.alloc (sgO s)).alloc zO).cell? ⟨w.heap.size, 0, none⟩ = some (.int .i64 10) := by have := ((sg_new w s).al zO).cell (j := 0) (v := .int .i64 s.kind) rfl; rw [h] at this; exact this
  have HS := Lib.hid (((sg_new w s).al zO).al (sgO (knS 10)))
  have HQ := Lib.hid (sg_new ((w.alloc (sgO s)).alloc zO) (knS 10))
  rw [World.size_alloc, World.size_alloc] at HQ
  have HP := Lib.hid (show HoldsB (((w.alloc (sgO s)).alloc zO).alloc (sgO (knS 10))) (w.heap.size + 1) 27 (sgA zS) from by have := ((HoldsB.new (w.alloc (sgO s)) 27 (sgA zS)).al (sgO (knS 10))); rwa [World.size_alloc] at this)
  have BQ := Lib.hid (w_alloc (w_alloc (w_alloc (w_refl w) (sgO s)) zO) (sgO (knS 10)))
  clear HU
  go_enter Tryd.func46, Tryd.ntmps46
  go_upto_region 2 with (first | (refine wl_box s (by kernel_rfl) ?_) | (refine wl_buildS _ (knS 10) (by kernel_rfl) ?_) | (refine wl_store0 (w.heap.size + 1 + 1) _ (knS 10) (by simp) (by kernel_rfl) (by kernel_rfl) rfl ?_) | fail)
  clear k0
  generalize ((w.alloc (sgO s)).alloc zO).alloc (sgO (knS 10)) = y at *
  have k0 : y.cell? ⟨w.heap.size, 0, none⟩ = some (.int .i64 10) := by have := HS.out.cell (j := 0) (v := .int .i64 s.kind) rfl; rw [h] at this; exact this
  have k13 := HS.out.cell (j := 13) (v := (.int .i64 s.n)) rfl
  have nb : w.heap.size ≠ w.heap.size + 1 + 1 := by omega
  have np : w.heap.size + 1 ≠ w.heap.size + 1 + 1 := by omega
  clear h
  have x13 := HQ.out.cell (j := 13) rfl
  have ff := HQ.out.frozen
  go_upto_region 18 with (fail)
  have H2 := Lib.hid (show HoldsB (y.setCell ⟨w.heap.size + 1 + 1, 13, none⟩ (.int .i64 s.n)) (w.heap.size + 1 + 1) 27 (sgA ⟨10, 0, 0, 0, false, 0, false, false, 0, 0, 0, 0, false, s.n, 0, 0, 0⟩) from (HQ.out.set 13 (.int .i64 s.n)))
  have H3 := Lib.hid (HP.out.other np 13 (.int .i64 s.n))
  have B2 := Lib.hid (w_put (b := w.heap.size + 1 + 1) BQ.out (by omega) 13 (.int .i64 s.n))
  clear HQ HP BQ HS k0 ff k13 x13
  generalize (y.setCell ⟨w.heap.size + 1 + 1, 13, none⟩ (.int .i64 s.n)) = z at *
  go_wp2_with (first | (refine wl_load (w.heap.size + 1 + 1) 0 ⟨10, 0, 0, 0, false, 0, false, false, 0, 0, 0, 0, false, s.n, 0, 0, 0⟩ (by kernel_rfl) H2.out.sg ?_) | (refine wl_rowS (w.heap.size + 1) _ ⟨10, 0, 0, 0, false, 0, false, false, 0, 0, 0, 0, false, s.n, 0, 0, 0⟩ H3.out (by kernel_rfl) (by kernel_rfl) rfl ?_) | fail)
  intro W' h1 h2 h3
  have B5 := Lib.hid (h2 _ _ B2.out (by omega))
  clear h2 h3
  go_wp2_with fail
  exact bodyPost_ret (res_sg rfl (by kernel_rfl) h1.sg) rfl ⟨rfl, B5.out⟩
set_option maxRecDepth 100000 in
set_option maxHeartbeats 16000000 in
theorem rused_11 (s : Sg) (h : s.kind = 11) (w : World) : Calls Tryd.prog 46 #[sgv s] w fun e w' => e = .returned (sgv (useS s)) ∧ Below w.heap.size w w' := by
  have HU : useS s = ⟨11, 0, 0, 0, false, 0, false, false, 0, 0, 0, 0, false, 0, 0, 0, 0⟩ := by unfold useS keepS; rw [h]; rfl
  rw [HU]
  have k0 : ((w.alloc (sgO s)).alloc zO).cell? ⟨w.heap.size, 0, none⟩ = some (.int .i64 11) := by have := ((sg_new w s).al zO).cell (j := 0) (v := .int .i64 s.kind) rfl; rw [h] at this; exact this
  have HS := Lib.hid (((sg_new w s).al zO).al (sgO (knS 11)))
  have HQ := Lib.hid (sg_new ((w.alloc (sgO s)).alloc zO) (knS 11))
  rw [World.size_alloc, World.size_alloc] at HQ
  have HP := Lib.hid (show HoldsB (((w.alloc (sgO s)).alloc zO).alloc (sgO (knS 11))) (w.heap.size + 1) 27 (sgA zS) from by have := ((HoldsB.new (w.alloc (sgO s)) 27 (sgA zS)).al (sgO (knS 11))); rwa [World.size_alloc] at this)
  have BQ := Lib.hid (w_alloc (w_alloc (w_alloc (w_refl w) (sgO s)) zO) (sgO (knS 11)))
  clear HU
  go_enter Tryd.func46, Tryd.ntmps46
  go_upto_region 2 with (first | (refine wl_box s (by kernel_rfl) ?_) | (refine wl_buildS _ (knS 11) (by kernel_rfl) ?_) | (refine wl_store0 (w.heap.size + 1 + 1) _ (knS 11) (by simp) (by kernel_rfl) (by kernel_rfl) rfl ?_) | fail)
  clear k0
  generalize ((w.alloc (sgO s)).alloc zO).alloc (sgO (knS 11)) = y at *
  have k0 : y.cell? ⟨w.heap.size, 0, none⟩ = some (.int .i64 11) := by have := HS.out.cell (j := 0) (v := .int .i64 s.kind) rfl; rw [h] at this; exact this
  have nb : w.heap.size ≠ w.heap.size + 1 + 1 := by omega
  have np : w.heap.size + 1 ≠ w.heap.size + 1 + 1 := by omega
  clear h
  have ff := HQ.out.frozen
  go_upto_region 18 with (fail)
  have H2 := Lib.hid (show HoldsB y (w.heap.size + 1 + 1) 27 (sgA ⟨11, 0, 0, 0, false, 0, false, false, 0, 0, 0, 0, false, 0, 0, 0, 0⟩) from HQ.out)
  have H3 := Lib.hid HP.out
  have B2 := Lib.hid BQ.out
  clear HQ HP BQ HS k0 ff
  go_wp2_with (first | (refine wl_load (w.heap.size + 1 + 1) 0 ⟨11, 0, 0, 0, false, 0, false, false, 0, 0, 0, 0, false, 0, 0, 0, 0⟩ (by kernel_rfl) H2.out.sg ?_) | (refine wl_rowS (w.heap.size + 1) _ ⟨11, 0, 0, 0, false, 0, false, false, 0, 0, 0, 0, false, 0, 0, 0, 0⟩ H3.out (by kernel_rfl) (by kernel_rfl) rfl ?_) | fail)
  intro W' h1 h2 h3
  have B5 := Lib.hid (h2 _ _ B2.out (by omega))
  clear h2 h3
  go_wp2_with fail
  exact bodyPost_ret (res_sg rfl (by kernel_rfl) h1.sg) rfl ⟨rfl, B5.out⟩
set_option maxRecDepth 100000 in
set_option maxHeartbeats 16000000 in
theorem rused_12 (s : Sg) (h : s.kind = 12) (w : World) : Calls Tryd.prog 46 #[sgv s] w fun e w' => e = .returned (sgv (useS s)) ∧ Below w.heap.size w w' := by
  have HU : useS s = ⟨12, 0, 0, 0, false, 0, false, false, 0, 0, 0, 0, false, 0, 0, 0, 0⟩ := by unfold useS keepS; rw [h]; rfl
  rw [HU]
  have k0 : ((w.alloc (sgO s)).alloc zO).cell? ⟨w.heap.size, 0, none⟩ = some (.int .i64 12) := by have := ((sg_new w s).al zO).cell (j := 0) (v := .int .i64 s.kind) rfl; rw [h] at this; exact this
  have HS := Lib.hid (((sg_new w s).al zO).al (sgO (knS 12)))
  have HQ := Lib.hid (sg_new ((w.alloc (sgO s)).alloc zO) (knS 12))
  rw [World.size_alloc, World.size_alloc] at HQ
  have HP := Lib.hid (show HoldsB (((w.alloc (sgO s)).alloc zO).alloc (sgO (knS 12))) (w.heap.size + 1) 27 (sgA zS) from by have := ((HoldsB.new (w.alloc (sgO s)) 27 (sgA zS)).al (sgO (knS 12))); rwa [World.size_alloc] at this)
  have BQ := Lib.hid (w_alloc (w_alloc (w_alloc (w_refl w) (sgO s)) zO) (sgO (knS 12)))
  clear HU
  go_enter Tryd.func46, Tryd.ntmps46
  go_upto_region 2 with (first | (refine wl_box s (by kernel_rfl) ?_) | (refine wl_buildS _ (knS 12) (by kernel_rfl) ?_) | (refine wl_store0 (w.heap.size + 1 + 1) _ (knS 12) (by simp) (by kernel_rfl) (by kernel_rfl) rfl ?_) | fail)
  clear k0
  generalize ((w.alloc (sgO s)).alloc zO).alloc (sgO (knS 12)) = y at *
  have k0 : y.cell? ⟨w.heap.size, 0, none⟩ = some (.int .i64 12) := by have := HS.out.cell (j := 0) (v := .int .i64 s.kind) rfl; rw [h] at this; exact this
  have nb : w.heap.size ≠ w.heap.size + 1 + 1 := by omega
  have np : w.heap.size + 1 ≠ w.heap.size + 1 + 1 := by omega
  clear h
  have ff := HQ.out.frozen
  go_upto_region 18 with (fail)
  have H2 := Lib.hid (show HoldsB y (w.heap.size + 1 + 1) 27 (sgA ⟨12, 0, 0, 0, false, 0, false, false, 0, 0, 0, 0, false, 0, 0, 0, 0⟩) from HQ.out)
  have H3 := Lib.hid HP.out
  have B2 := Lib.hid BQ.out
  clear HQ HP BQ HS k0 ff
  go_wp2_with (first | (refine wl_load (w.heap.size + 1 + 1) 0 ⟨12, 0, 0, 0, false, 0, false, false, 0, 0, 0, 0, false, 0, 0, 0, 0⟩ (by kernel_rfl) H2.out.sg ?_) | (refine wl_rowS (w.heap.size + 1) _ ⟨12, 0, 0, 0, false, 0, false, false, 0, 0, 0, 0, false, 0, 0, 0, 0⟩ H3.out (by kernel_rfl) (by kernel_rfl) rfl ?_) | fail)
  intro W' h1 h2 h3
  have B5 := Lib.hid (h2 _ _ B2.out (by omega))
  clear h2 h3
  go_wp2_with fail
  exact bodyPost_ret (res_sg rfl (by kernel_rfl) h1.sg) rfl ⟨rfl, B5.out⟩
end Go.Proofs.YtcomjcflllfobaaDoor
