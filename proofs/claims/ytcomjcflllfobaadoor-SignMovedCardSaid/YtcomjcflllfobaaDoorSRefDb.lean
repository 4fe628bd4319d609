/- What the reference keeps of a sign. -/
import Derived.Test.YtcomjcflllfobaaDoorSRefDa
import Derived.Test.YtcomjcflllfobaaDoorSRefC
namespace Go.Proofs.YtcomjcflllfobaaDoor
open Go.RowKit
attribute [local go_sem] sgA_g0 sgA_g1 sgA_g2 sgA_g3 sgA_g4 sgA_g5 sgA_g6 sgA_g7 sgA_g8 sgA_g9 sgA_g10 sgA_g11 sgA_g12 sgA_g13 sgA_g14 sgA_g15 sgA_g16

set_option maxRecDepth 100000 in
set_option maxHeartbeats 16000000 in
theorem rused_1 (s : Sg) (h : s.kind = 1) (w : World) : Calls Tryd.prog 46 #[sgv s] w fun e w' => e = .returned (sgv (useS s)) ∧ Below w.heap.size w w' := by
  have HU : useS s = ⟨1, s.val, s.place, s.acc, s.col, 0, false, false, 0, 0, 0, 0, false, 0, 0, 0, 0⟩ := by unfold useS keepS; rw [h]; rfl
  rw [HU]
  have k0 : ((w.alloc (sgO s)).alloc zO).cell? ⟨w.heap.size, 0, none⟩ = some (.int .i64 1) := by have := ((sg_new w s).al zO).cell (j := 0) (v := .int .i64 s.kind) rfl; rw [h] at this; exact this
  have HS := Lib.hid (((sg_new w s).al zO).al (sgO (knS 1)))
  have HQ := Lib.hid (sg_new ((w.alloc (sgO s)).alloc zO) (knS 1))
  rw [World.size_alloc, World.size_alloc] at HQ
  have HP := Lib.hid (show HoldsB (((w.alloc (sgO s)).alloc zO).alloc (sgO (knS 1))) (w.heap.size + 1) 27 (sgA zS) from by have := ((HoldsB.new (w.alloc (sgO s)) 27 (sgA zS)).al (sgO (knS 1))); rwa [World.size_alloc] at this)
  have BQ := Lib.hid (w_alloc (w_alloc (w_alloc (w_refl w) (sgO s)) zO) (sgO (knS 1)))
  clear HU
  go_enter Tryd.func46, Tryd.ntmps46
  go_upto_region 2 with (first | (refine wl_box s (by kernel_rfl) ?_) | (refine wl_buildS _ (knS 1) (by kernel_rfl) ?_) | (refine wl_store0 (w.heap.size + 1 + 1) _ (knS 1) (by simp) (by kernel_rfl) (by kernel_rfl) rfl ?_) | fail)
  clear k0
  generalize ((w.alloc (sgO s)).alloc zO).alloc (sgO (knS 1)) = y at *
  have k0 : y.cell? ⟨w.heap.size, 0, none⟩ = some (.int .i64 1) := by have := HS.out.cell (j := 0) (v := .int .i64 s.kind) rfl; rw [h] at this; exact this
  have k1 := HS.out.cell (j := 1) (v := (.int .i64 s.val)) rfl
  have k2 := HS.out.cell (j := 2) (v := (.int .i64 s.place)) rfl
  have k3 := HS.out.cell (j := 3) (v := (.int .i64 s.acc)) rfl
  have k4 := HS.out.cell (j := 4) (v := (.bool s.col)) rfl
  have nb : w.heap.size ≠ w.heap.size + 1 + 1 := by omega
  have np : w.heap.size + 1 ≠ w.heap.size + 1 + 1 := by omega
  clear h
  go_wp2_with fail
  refine wp_region_held_drew (S := (fun W => W.cell? ⟨w.heap.size, 1, none⟩ = some (.int .i64 s.val) ∧ W.cell? ⟨w.heap.size, 2, none⟩ = some (.int .i64 s.place) ∧ W.cell? ⟨w.heap.size, 3, none⟩ = some (.int .i64 s.acc) ∧ W.cell? ⟨w.heap.size, 4, none⟩ = some (.bool s.col))) (by kernel_rfl) ?_ (fun hHeld => ?_)
  · exact ⟨k1, k2, k3, k4⟩
  clear hHeld k0
  have FX := Lib.hid (show HoldsB (World.drew y) w.heap.size 27 (sgA s) ∧ HoldsB (World.drew y) (w.heap.size + 1 + 1) 27 (sgA (knS 1)) ∧ HoldsB (World.drew y) (w.heap.size + 1) 27 (sgA zS) ∧ Below w.heap.size w (World.drew y) from ⟨HS.out.later (w_refl _).drew, HQ.out.later (w_refl _).drew, HP.out.later (w_refl _).drew, BQ.out.drew⟩)
  clear HS HQ HP BQ k1 k2 k3 k4
  generalize World.drew y = z0 at *
  refine wpAnyH_take (i := 0) (v := .pointer (some ⟨w.heap.size, 1, none⟩)) rfl (by kernel_rfl) (by kernel_rfl) (by kernel_rfl) (fun _ _ _ h => h) (Or.inl ⟨by kernel_rfl, fun _ _ => by go_simp⟩) ⟨FX.out.1.cell (j := 1) rfl, FX.out.1.cell (j := 2) rfl, FX.out.1.cell (j := 3) rfl, FX.out.1.cell (j := 4) rfl⟩ ?_
  refine wpAnyH_take (i := 1) (v := (.int .i64 s.val)) rfl (by kernel_rfl) (by kernel_rfl) (by kernel_rfl) (fun _ _ _ h => h) (Or.inl ⟨by kernel_rfl, fun W hW => by (obtain ⟨c1, c2, c3, c4⟩ := hW; go_simp)⟩) ⟨FX.out.1.cell (j := 1) rfl, FX.out.1.cell (j := 2) rfl, FX.out.1.cell (j := 3) rfl, FX.out.1.cell (j := 4) rfl⟩ ?_
  refine wpAnyH_take (i := 2) (v := .pointer (some ⟨w.heap.size, 2, none⟩)) rfl (by kernel_rfl) (by kernel_rfl) (by kernel_rfl) (fun _ _ _ h => h) (Or.inl ⟨by kernel_rfl, fun _ _ => by go_simp⟩) ⟨FX.out.1.cell (j := 1) rfl, FX.out.1.cell (j := 2) rfl, FX.out.1.cell (j := 3) rfl, FX.out.1.cell (j := 4) rfl⟩ ?_
  refine wpAnyH_take (i := 3) (v := (.int .i64 s.place)) rfl (by kernel_rfl) (by kernel_rfl) (by kernel_rfl) (fun _ _ _ h => h) (Or.inl ⟨by kernel_rfl, fun W hW => by (obtain ⟨c1, c2, c3, c4⟩ := hW; go_simp)⟩) ⟨FX.out.1.cell (j := 1) rfl, FX.out.1.cell (j := 2) rfl, FX.out.1.cell (j := 3) rfl, FX.out.1.cell (j := 4) rfl⟩ ?_
  refine wpAnyH_take (i := 4) (v := .pointer (some ⟨w.heap.size, 3, none⟩)) rfl (by kernel_rfl) (by kernel_rfl) (by kernel_rfl) (fun _ _ _ h => h) (Or.inl ⟨by kernel_rfl, fun _ _ => by go_simp⟩) ⟨FX.out.1.cell (j := 1) rfl, FX.out.1.cell (j := 2) rfl, FX.out.1.cell (j := 3) rfl, FX.out.1.cell (j := 4) rfl⟩ ?_
  refine wpAnyH_take (i := 5) (v := (.int .i64 s.acc)) rfl (by kernel_rfl) (by kernel_rfl) (by kernel_rfl) (fun _ _ _ h => h) (Or.inl ⟨by kernel_rfl, fun W hW => by (obtain ⟨c1, c2, c3, c4⟩ := hW; go_simp)⟩) ⟨FX.out.1.cell (j := 1) rfl, FX.out.1.cell (j := 2) rfl, FX.out.1.cell (j := 3) rfl, FX.out.1.cell (j := 4) rfl⟩ ?_
  refine wpAnyH_take (i := 6) (v := .pointer (some ⟨w.heap.size, 4, none⟩)) rfl (by kernel_rfl) (by kernel_rfl) (by kernel_rfl) (fun _ _ _ h => h) (Or.inl ⟨by kernel_rfl, fun _ _ => by go_simp⟩) ⟨FX.out.1.cell (j := 1) rfl, FX.out.1.cell (j := 2) rfl, FX.out.1.cell (j := 3) rfl, FX.out.1.cell (j := 4) rfl⟩ ?_
  refine wpAnyH_take (i := 7) (v := (.bool s.col)) rfl (by kernel_rfl) (by kernel_rfl) (by kernel_rfl) (fun _ _ _ h => h) (Or.inl ⟨by kernel_rfl, fun W hW => by (obtain ⟨c1, c2, c3, c4⟩ := hW; go_simp)⟩) ⟨FX.out.1.cell (j := 1) rfl, FX.out.1.cell (j := 2) rfl, FX.out.1.cell (j := 3) rfl, FX.out.1.cell (j := 4) rfl⟩ ?_
  refine wpAnyH_take (i := 8) (v := .pointer (some ⟨w.heap.size + 1 + 1, 1, none⟩)) rfl (by kernel_rfl) (by kernel_rfl) (by kernel_rfl) (fun _ _ _ h => h) (Or.inl ⟨by kernel_rfl, fun _ _ => by go_simp⟩) ⟨FX.out.1.cell (j := 1) rfl, FX.out.1.cell (j := 2) rfl, FX.out.1.cell (j := 3) rfl, FX.out.1.cell (j := 4) rfl⟩ ?_
  simp only [Act.put, List.getElem_toArray, List.getElem_cons_succ, List.getElem_cons_zero, List.setIfInBounds_toArray, List.set_cons_succ, List.set_cons_zero]
  have x1 := FX.out.2.1.cell (j := 1) rfl
  have ff := FX.out.2.1.frozen
  refine wpAnyH_ready (rs := [9]) (by kernel_rfl) (by simp) ?_
  refine AllReadyH.cons rfl (fun K hK => ?_) AllReadyH.nil
  rw [if_pos (by kernel_rfl)]
  go_simp
  replace FX := Lib.hid (show HoldsB (z0.setCell ⟨w.heap.size + 1 + 1, 1, none⟩ (.int .i64 s.val)) w.heap.size 27 (sgA s) ∧ HoldsB (z0.setCell ⟨w.heap.size + 1 + 1, 1, none⟩ (.int .i64 s.val)) (w.heap.size + 1 + 1) 27 ((sgA (knS 1)).setIfInBounds 1 (.int .i64 s.val)) ∧ HoldsB (z0.setCell ⟨w.heap.size + 1 + 1, 1, none⟩ (.int .i64 s.val)) (w.heap.size + 1) 27 (sgA zS) ∧ Below w.heap.size w (z0.setCell ⟨w.heap.size + 1 + 1, 1, none⟩ (.int .i64 s.val)) from ⟨(FX.out.1.other nb 1 (.int .i64 s.val)), (FX.out.2.1.set 1 (.int .i64 s.val)), (FX.out.2.2.1.other np 1 (.int .i64 s.val)), (w_put (b := w.heap.size + 1 + 1) FX.out.2.2.2 (by omega) 1 (.int .i64 s.val))⟩)
  refine hK.out _ _ ⟨FX.out.1.cell (j := 1) rfl, FX.out.1.cell (j := 2) rfl, FX.out.1.cell (j := 3) rfl, FX.out.1.cell (j := 4) rfl⟩ (fun _ => ?_)
  clear hK K ff x1
  generalize (z0.setCell ⟨w.heap.size + 1 + 1, 1, none⟩ (.int .i64 s.val)) = z1 at *
  refine wpAnyH_take (i := 10) (v := .pointer (some ⟨w.heap.size + 1 + 1, 2, none⟩)) rfl (by kernel_rfl) (by kernel_rfl) (by kernel_rfl) (fun _ _ _ h => h) (Or.inl ⟨by kernel_rfl, fun _ _ => by go_simp⟩) ⟨FX.out.1.cell (j := 1) rfl, FX.out.1.cell (j := 2) rfl, FX.out.1.cell (j := 3) rfl, FX.out.1.cell (j := 4) rfl⟩ ?_
  simp only [Act.put, List.getElem_toArray, List.getElem_cons_succ, List.getElem_cons_zero, List.setIfInBounds_toArray, List.set_cons_succ, List.set_cons_zero]
  have x2 := FX.out.2.1.cell (j := 2) rfl
  have ff := FX.out.2.1.frozen
  refine wpAnyH_ready (rs := [11]) (by kernel_rfl) (by simp) ?_
  refine AllReadyH.cons rfl (fun K hK => ?_) AllReadyH.nil
  rw [if_pos (by kernel_rfl)]
  go_simp
  replace FX := Lib.hid (show HoldsB (z1.setCell ⟨w.heap.size + 1 + 1, 2, none⟩ (.int .i64 s.place)) w.heap.size 27 (sgA s) ∧ HoldsB (z1.setCell ⟨w.heap.size + 1 + 1, 2, none⟩ (.int .i64 s.place)) (w.heap.size + 1 + 1) 27 (((sgA (knS 1)).setIfInBounds 1 (.int .i64 s.val)).setIfInBounds 2 (.int .i64 s.place)) ∧ HoldsB (z1.setCell ⟨w.heap.size + 1 + 1, 2, none⟩ (.int .i64 s.place)) (w.heap.size + 1) 27 (sgA zS) ∧ Below w.heap.size w (z1.setCell ⟨w.heap.size + 1 + 1, 2, none⟩ (.int .i64 s.place)) from ⟨(FX.out.1.other nb 2 (.int .i64 s.place)), (FX.out.2.1.set 2 (.int .i64 s.place)), (FX.out.2.2.1.other np 2 (.int .i64 s.place)), (w_put (b := w.heap.size + 1 + 1) FX.out.2.2.2 (by omega) 2 (.int .i64 s.place))⟩)
  refine hK.out _ _ ⟨FX.out.1.cell (j := 1) rfl, FX.out.1.cell (j := 2) rfl, FX.out.1.cell (j := 3) rfl, FX.out.1.cell (j := 4) rfl⟩ (fun _ => ?_)
  clear hK K ff x2
  generalize (z1.setCell ⟨w.heap.size + 1 + 1, 2, none⟩ (.int .i64 s.place)) = z2 at *
  refine wpAnyH_take (i := 12) (v := .pointer (some ⟨w.heap.size + 1 + 1, 3, none⟩)) rfl (by kernel_rfl) (by kernel_rfl) (by kernel_rfl) (fun _ _ _ h => h) (Or.inl ⟨by kernel_rfl, fun _ _ => by go_simp⟩) ⟨FX.out.1.cell (j := 1) rfl, FX.out.1.cell (j := 2) rfl, FX.out.1.cell (j := 3) rfl, FX.out.1.cell (j := 4) rfl⟩ ?_
  simp only [Act.put, List.getElem_toArray, List.getElem_cons_succ, List.getElem_cons_zero, List.setIfInBounds_toArray, List.set_cons_succ, List.set_cons_zero]
  have x3 := FX.out.2.1.cell (j := 3) rfl
  have ff := FX.out.2.1.frozen
  refine wpAnyH_ready (rs := [13]) (by kernel_rfl) (by simp) ?_
  refine AllReadyH.cons rfl (fun K hK => ?_) AllReadyH.nil
  rw [if_pos (by kernel_rfl)]
  go_simp
  replace FX := Lib.hid (show HoldsB (z2.setCell ⟨w.heap.size + 1 + 1, 3, none⟩ (.int .i64 s.acc)) w.heap.size 27 (sgA s) ∧ HoldsB (z2.setCell ⟨w.heap.size + 1 + 1, 3, none⟩ (.int .i64 s.acc)) (w.heap.size + 1 + 1) 27 ((((sgA (knS 1)).setIfInBounds 1 (.int .i64 s.val)).setIfInBounds 2 (.int .i64 s.place)).setIfInBounds 3 (.int .i64 s.acc)) ∧ HoldsB (z2.setCell ⟨w.heap.size + 1 + 1, 3, none⟩ (.int .i64 s.acc)) (w.heap.size + 1) 27 (sgA zS) ∧ Below w.heap.size w (z2.setCell ⟨w.heap.size + 1 + 1, 3, none⟩ (.int .i64 s.acc)) from ⟨(FX.out.1.other nb 3 (.int .i64 s.acc)), (FX.out.2.1.set 3 (.int .i64 s.acc)), (FX.out.2.2.1.other np 3 (.int .i64 s.acc)), (w_put (b := w.heap.size + 1 + 1) FX.out.2.2.2 (by omega) 3 (.int .i64 s.acc))⟩)
  refine hK.out _ _ ⟨FX.out.1.cell (j := 1) rfl, FX.out.1.cell (j := 2) rfl, FX.out.1.cell (j := 3) rfl, FX.out.1.cell (j := 4) rfl⟩ (fun _ => ?_)
  clear hK K ff x3
  generalize (z2.setCell ⟨w.heap.size + 1 + 1, 3, none⟩ (.int .i64 s.acc)) = z3 at *
  refine wpAnyH_take (i := 14) (v := .pointer (some ⟨w.heap.size + 1 + 1, 4, none⟩)) rfl (by kernel_rfl) (by kernel_rfl) (by kernel_rfl) (fun _ _ _ h => h) (Or.inl ⟨by kernel_rfl, fun _ _ => by go_simp⟩) ⟨FX.out.1.cell (j := 1) rfl, FX.out.1.cell (j := 2) rfl, FX.out.1.cell (j := 3) rfl, FX.out.1.cell (j := 4) rfl⟩ ?_
  simp only [Act.put, List.getElem_toArray, List.getElem_cons_succ, List.getElem_cons_zero, List.setIfInBounds_toArray, List.set_cons_succ, List.set_cons_zero]
  have x4 := FX.out.2.1.cell (j := 4) rfl
  have ff := FX.out.2.1.frozen
  refine wpAnyH_ready (rs := [15]) (by kernel_rfl) (by simp) ?_
  refine AllReadyH.cons rfl (fun K hK => ?_) AllReadyH.nil
  rw [if_pos (by kernel_rfl)]
  go_simp
  replace FX := Lib.hid (show HoldsB (z3.setCell ⟨w.heap.size + 1 + 1, 4, none⟩ (.bool s.col)) w.heap.size 27 (sgA s) ∧ HoldsB (z3.setCell ⟨w.heap.size + 1 + 1, 4, none⟩ (.bool s.col)) (w.heap.size + 1 + 1) 27 (((((sgA (knS 1)).setIfInBounds 1 (.int .i64 s.val)).setIfInBounds 2 (.int .i64 s.place)).setIfInBounds 3 (.int .i64 s.acc)).setIfInBounds 4 (.bool s.col)) ∧ HoldsB (z3.setCell ⟨w.heap.size + 1 + 1, 4, none⟩ (.bool s.col)) (w.heap.size + 1) 27 (sgA zS) ∧ Below w.heap.size w (z3.setCell ⟨w.heap.size + 1 + 1, 4, none⟩ (.bool s.col)) from ⟨(FX.out.1.other nb 4 (.bool s.col)), (FX.out.2.1.set 4 (.bool s.col)), (FX.out.2.2.1.other np 4 (.bool s.col)), (w_put (b := w.heap.size + 1 + 1) FX.out.2.2.2 (by omega) 4 (.bool s.col))⟩)
  refine hK.out _ _ ⟨FX.out.1.cell (j := 1) rfl, FX.out.1.cell (j := 2) rfl, FX.out.1.cell (j := 3) rfl, FX.out.1.cell (j := 4) rfl⟩ (fun _ => ?_)
  clear hK K ff x4
  generalize (z3.setCell ⟨w.heap.size + 1 + 1, 4, none⟩ (.bool s.col)) = z4 at *
  refine wpAnyH_done (by kernel_rfl) ?_ _
  have H2 := Lib.hid (show HoldsB z4 (w.heap.size + 1 + 1) 27 (sgA ⟨1, s.val, s.place, s.acc, s.col, 0, false, false, 0, 0, 0, 0, false, 0, 0, 0, 0⟩) from FX.out.2.1)
  have H3 := Lib.hid FX.out.2.2.1
  have B2 := Lib.hid FX.out.2.2.2
  clear FX
  go_wp2_with (first | (refine wl_load (w.heap.size + 1 + 1) 0 ⟨1, s.val, s.place, s.acc, s.col, 0, false, false, 0, 0, 0, 0, false, 0, 0, 0, 0⟩ (by kernel_rfl) H2.out.sg ?_) | (refine wl_rowS (w.heap.size + 1) _ ⟨1, s.val, s.place, s.acc, s.col, 0, false, false, 0, 0, 0, 0, false, 0, 0, 0, 0⟩ H3.out (by kernel_rfl) (by kernel_rfl) rfl ?_) | fail)
  intro W' h1 h2 h3
  have B5 := Lib.hid (h2 _ _ B2.out (by omega))
  clear h2 h3
  go_wp2_with fail
  exact bodyPost_ret (res_sg rfl (by kernel_rfl) h1.sg) rfl ⟨rfl, B5.out⟩
set_option maxRecDepth 100000 in
set_option maxHeartbeats 16000000 in
theorem rused_2 (s : Sg) (h : s.kind = 2) (w : World) : Calls Tryd.prog 46 #[sgv s] w fun e w' => e = .returned (sgv (useS s)) ∧ Below w.heap.size w w' := by
  have HU : useS s = ⟨2, s.val, 0, 0, false, 0, false, false, 0, 0, 0, 0, false, 0, 0, 0, 0⟩ := by unfold useS keepS; rw [h]; rfl
  rw [HU]
  have k0 : ((w.alloc (sgO s)).alloc zO).cell? ⟨w.heap.size, 0, none⟩ = some (.int .i64 2) := by have := ((sg_new w s).al zO).cell (j := 0) (v := .int .i64 s.kind) rfl; rw [h] at this; exact this
  have HS := Lib.hid (((sg_new w s).al zO).al (sgO (knS 2)))
  have HQ := Lib.hid (sg_new ((w.alloc (sgO s)).alloc zO) (knS 2))
  rw [World.size_alloc, World.size_alloc] at HQ
  have HP := Lib.hid (show HoldsB (((w.alloc (sgO s)).alloc zO).alloc (sgO (knS 2))) (w.heap.size + 1) 27 (sgA zS) from by have := ((HoldsB.new (w.alloc (sgO s)) 27 (sgA zS)).al (sgO (knS 2))); rwa [World.size_alloc] at this)
  have BQ := Lib.hid (w_alloc (w_alloc (w_alloc (w_refl w) (sgO s)) zO) (sgO (knS 2)))
  clear HU
  go_enter Tryd.func46, Tryd.ntmps46
  go_upto_region 2 with (first | (refine wl_box s (by kernel_rfl) ?_) | (refine wl_buildS _ (knS 2) (by kernel_rfl) ?_) | (refine wl_store0 (w.heap.size + 1 + 1) _ (knS 2) (by simp) (by kernel_rfl) (by kernel_rfl) rfl ?_) | fail)
  clear k0
  generalize ((w.alloc (sgO s)).alloc zO).alloc (sgO (knS 2)) = y at *
  have k0 : y.cell? ⟨w.heap.size, 0, none⟩ = some (.int .i64 2) := by have := HS.out.cell (j := 0) (v := .int .i64 s.kind) rfl; rw [h] at this; exact this
  have k1 := HS.out.cell (j := 1) (v := (.int .i64 s.val)) rfl
  have nb : w.heap.size ≠ w.heap.size + 1 + 1 := by omega
  have np : w.heap.size + 1 ≠ w.heap.size + 1 + 1 := by omega
  clear h
  have x1 := HQ.out.cell (j := 1) rfl
  have ff := HQ.out.frozen
  go_upto_region 18 with (fail)
  have H2 := Lib.hid (show HoldsB (y.setCell ⟨w.heap.size + 1 + 1, 1, none⟩ (.int .i64 s.val)) (w.heap.size + 1 + 1) 27 (sgA ⟨2, s.val, 0, 0, false, 0, false, false, 0, 0, 0, 0, false, 0, 0, 0, 0⟩) from (HQ.out.set 1 (.int .i64 s.val)))
  have H3 := Lib.hid (HP.out.other np 1 (.int .i64 s.val))
  have B2 := Lib.hid (w_put (b := w.heap.size + 1 + 1) BQ.out (by omega) 1 (.int .i64 s.val))
  clear HQ HP BQ HS k0 ff k1 x1
  generalize (y.setCell ⟨w.heap.size + 1 + 1, 1, none⟩ (.int .i64 s.val)) = z at *
  go_wp2_with (first | (refine wl_load (w.heap.size + 1 + 1) 0 ⟨2, s.val, 0, 0, false, 0, false, false, 0, 0, 0, 0, false, 0, 0, 0, 0⟩ (by kernel_rfl) H2.out.sg ?_) | (refine wl_rowS (w.heap.size + 1) _ ⟨2, s.val, 0, 0, false, 0, false, false, 0, 0, 0, 0, false, 0, 0, 0, 0⟩ H3.out (by kernel_rfl) (by kernel_rfl) rfl ?_) | fail)
  intro W' h1 h2 h3
  have B5 := Lib.hid (h2 _ _ B2.out (by omega))
  clear h2 h3
  go_wp2_with fail
  exact bodyPost_ret (res_sg rfl (by kernel_rfl) h1.sg) rfl ⟨rfl, B5.out⟩
set_option maxRecDepth 100000 in
set_option maxHeartbeats 16000000 in
theorem rused_3 (s : Sg) (h : s.kind = 3) (w : World) : Calls Tryd.prog 46 #[sgv s] w fun e w' => e = .returned (sgv (useS s)) ∧ Below w.heap.size w w' := by
  have HU : useS s = ⟨3, 0, 0, 0, false, 0, false, false, 0, 0, 0, 0, false, 0, 0, 0, 0⟩ := by unfold useS keepS; rw [h]; rfl
  rw [HU]
  have k0 : ((w.alloc (sgO s)).alloc zO).cell? ⟨w.heap.size, 0, none⟩ = some (.int .i64 3) := by have := ((sg_new w s).al zO).cell (j := 0) (v := .int .i64 s.kind) rfl; rw [h] at this; exact this
  have HS := Lib.hid (((sg_new w s).al zO).al (sgO (knS 3)))
  have HQ := Lib.hid (sg_new ((w.alloc (sgO s)).alloc zO) (knS 3))
  rw [World.size_alloc, World.size_alloc] at HQ
  have HP := Lib.hid (show HoldsB (((w.alloc (sgO s)).alloc zO).alloc (sgO (knS 3))) (w.heap.size + 1) 27 (sgA zS) from by have := ((HoldsB.new (w.alloc (sgO s)) 27 (sgA zS)).al (sgO (knS 3))); rwa [World.size_alloc] at this)
  have BQ := Lib.hid (w_alloc (w_alloc (w_alloc (w_refl w) (sgO s)) zO) (sgO (knS 3)))
  clear HU
  go_enter Tryd.func46, Tryd.ntmps46
  go_upto_region 2 with (first | (refine wl_box s (by kernel_rfl) ?_) | (refine wl_buildS _ (knS 3) (by kernel_rfl) ?_) | (refine wl_store0 (w.heap.size + 1 + 1) _ (knS 3) (by simp) (by kernel_rfl) (by kernel_rfl) rfl ?_) | fail)
  clear k0
  generalize ((w.alloc (sgO s)).alloc zO).alloc (sgO (knS 3)) = y at *
  have k0 : y.cell? ⟨w.heap.size, 0, none⟩ = some (.int .i64 3) := by have := HS.out.cell (j := 0) (v := .int .i64 s.kind) rfl; rw [h] at this; exact this
  have nb : w.heap.size ≠ w.heap.size + 1 + 1 := by omega
  have np : w.heap.size + 1 ≠ w.heap.size + 1 + 1 := by omega
  clear h
  have ff := HQ.out.frozen
  go_upto_region 18 with (fail)
  have H2 := Lib.hid (show HoldsB y (w.heap.size + 1 + 1) 27 (sgA ⟨3, 0, 0, 0, false, 0, false, false, 0, 0, 0, 0, false, 0, 0, 0, 0⟩) from HQ.out)
  have H3 := Lib.hid HP.out
  have B2 := Lib.hid BQ.out
  clear HQ HP BQ HS k0 ff
  go_wp2_with (first | (refine wl_load (w.heap.size + 1 + 1) 0 ⟨3, 0, 0, 0, false, 0, false, false, 0, 0, 0, 0, false, 0, 0, 0, 0⟩ (by kernel_rfl) H2.out.sg ?_) | (refine wl_rowS (w.heap.size + 1) _ ⟨3, 0, 0, 0, false, 0, false, false, 0, 0, 0, 0, false, 0, 0, 0, 0⟩ H3.out (by kernel_rfl) (by kernel_rfl) rfl ?_) | fail)
  intro W' h1 h2 h3
  have B5 := Lib.hid (h2 _ _ B2.out (by omega))
  clear h2 h3
  go_wp2_with fail
  exact bodyPost_ret (res_sg rfl (by kernel_rfl) h1.sg) rfl ⟨rfl, B5.out⟩
end Go.Proofs.YtcomjcflllfobaaDoor
