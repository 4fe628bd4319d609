/- What the reference keeps of a sign. -/
import Derived.Test.YtcomjcflllfobaaDoorSRefDa
import Derived.Test.YtcomjcflllfobaaDoorSRefC
namespace Go.Proofs.YtcomjcflllfobaaDoor
open Go.RowKit
attribute [local go_sem] sgA_g0 sgA_g1 sgA_g2 sgA_g3 sgA_g4 sgA_g5 sgA_g6 sgA_g7 sgA_g8 sgA_g9 sgA_g10 sgA_g11 sgA_g12 sgA_g13 sgA_g14 sgA_g15 sgA_g16

set_option maxRecDepth 100000 in
set_option maxHeartbeats 16000000 in
theorem rused_4 (s : Sg) (h : s.kind = 4) (w : World) : Calls Tryd.prog 46 #[sgv s] w fun e w' => e = .returned (sgv (useS s)) ∧ Below w.heap.size w w' := by
  have HU : useS s = ⟨4, 0, s.place, s.acc, s.col, s.stem, s.obl, s.last, 0, 0, 0, 0, false, 0, 0, 0, 0⟩ := by unfold useS keepS; rw [h]; rfl
  rw [HU]
  have k0 : ((w.alloc (sgO s)).alloc zO).cell? ⟨w.heap.size, 0, none⟩ = some (.int .i64 4) := by have := ((sg_new w s).al zO).cell (j := 0) (v := .int .i64 s.kind) rfl; rw [h] at this; exact this
  have HS := Lib.hid (((sg_new w s).al zO).al (sgO (knS 4)))
  have HQ := Lib.hid (sg_new ((w.alloc (sgO s)).alloc zO) (knS 4))
  rw [World.size_alloc, World.size_alloc] at HQ
  have HP := Lib.hid (show HoldsB (((w.alloc (sgO s)).alloc zO).alloc (sgO (knS 4))) (w.heap.size + 1) 27 (sgA zS) from by have := ((HoldsB.new (w.alloc (sgO s)) 27 (sgA zS)).al (sgO (knS 4))); rwa [World.size_alloc] at this)
  have BQ := Lib.hid (w_alloc (w_alloc (w_alloc (w_refl w) (sgO s)) zO) (sgO (knS 4)))
  clear HU
  go_enter Tryd.func46, Tryd.ntmps46
  go_upto_region 2 with (first | (refine wl_box s (by kernel_rfl) ?_) | (refine wl_buildS _ (knS 4) (by kernel_rfl) ?_) | (refine wl_store0 (w.heap.size + 1 + 1) _ (knS 4) (by simp) (by kernel_rfl) (by kernel_rfl) rfl ?_) | fail)
  clear k0
  generalize ((w.alloc (sgO s)).alloc zO).alloc (sgO (knS 4)) = y at *
  have k0 : y.cell? ⟨w.heap.size, 0, none⟩ = some (.int .i64 4) := by have := HS.out.cell (j := 0) (v := .int .i64 s.kind) rfl; rw [h] at this; exact this
  have k2 := HS.out.cell (j := 2) (v := (.int .i64 s.place)) rfl
  have k3 := HS.out.cell (j := 3) (v := (.int .i64 s.acc)) rfl
  have k4 := HS.out.cell (j := 4) (v := (.bool s.col)) rfl
  have k5 := HS.out.cell (j := 5) (v := (.int .i64 s.stem)) rfl
  have k6 := HS.out.cell (j := 6) (v := (.bool s.obl)) rfl
  have k7 := HS.out.cell (j := 7) (v := (.bool s.last)) rfl
  have nb : w.heap.size ≠ w.heap.size + 1 + 1 := by omega
  have np : w.heap.size + 1 ≠ w.heap.size + 1 + 1 := by omega
  clear h
  go_wp2_with fail
  refine wp_region_held_drew (S := (fun W => W.cell? ⟨w.heap.size, 2, none⟩ = some (.int .i64 s.place) ∧ W.cell? ⟨w.heap.size, 3, none⟩ = some (.int .i64 s.acc) ∧ W.cell? ⟨w.heap.size, 4, none⟩ = some (.bool s.col) ∧ W.cell? ⟨w.heap.size, 5, none⟩ = some (.int .i64 s.stem) ∧ W.cell? ⟨w.heap.size, 6, none⟩ = some (.bool s.obl) ∧ W.cell? ⟨w.heap.size, 7, none⟩ = some (.bool s.last))) (by kernel_rfl) ?_ (fun hHeld => ?_)
  · exact ⟨k2, k3, k4, k5, k6, k7⟩
  clear hHeld k0
  have FX := Lib.hid (show HoldsB (World.drew y) w.heap.size 27 (sgA s) ∧ HoldsB (World.drew y) (w.heap.size + 1 + 1) 27 (sgA (knS 4)) ∧ HoldsB (World.drew y) (w.heap.size + 1) 27 (sgA zS) ∧ Below w.heap.size w (World.drew y) from ⟨HS.out.later (w_refl _).drew, HQ.out.later (w_refl _).drew, HP.out.later (w_refl _).drew, BQ.out.drew⟩)
  clear HS HQ HP BQ k2 k3 k4 k5 k6 k7
  generalize World.drew y = z0 at *
  refine wpAnyH_take (i := 0) (v := .pointer (some ⟨w.heap.size, 2, none⟩)) rfl (by kernel_rfl) (by kernel_rfl) (by kernel_rfl) (fun _ _ _ h => h) (Or.inl ⟨by kernel_rfl, fun _ _ => by go_simp⟩) ⟨FX.out.1.cell (j := 2) rfl, FX.out.1.cell (j := 3) rfl, FX.out.1.cell (j := 4) rfl, FX.out.1.cell (j := 5) rfl, FX.out.1.cell (j := 6) rfl, FX.out.1.cell (j := 7) rfl⟩ ?_
  refine wpAnyH_take (i := 1) (v := (.int .i64 s.place)) rfl (by kernel_rfl) (by kernel_rfl) (by kernel_rfl) (fun _ _ _ h => h) (Or.inl ⟨by kernel_rfl, fun W hW => by (obtain ⟨c2, c3, c4, c5, c6, c7⟩ := hW; go_simp)⟩) ⟨FX.out.1.cell (j := 2) rfl, FX.out.1.cell (j := 3) rfl, FX.out.1.cell (j := 4) rfl, FX.out.1.cell (j := 5) rfl, FX.out.1.cell (j := 6) rfl, FX.out.1.cell (j := 7) rfl⟩ ?_
  refine wpAnyH_take (i := 2) (v := .pointer (some ⟨w.heap.size, 3, none⟩)) rfl (by kernel_rfl) (by kernel_rfl) (by kernel_rfl) (fun _ _ _ h => h) (Or.inl ⟨by kernel_rfl, fun _ _ => by go_simp⟩) ⟨FX.out.1.cell (j := 2) rfl, FX.out.1.cell (j := 3) rfl, FX.out.1.cell (j := 4) rfl, FX.out.1.cell (j := 5) rfl, FX.out.1.cell (j := 6) rfl, FX.out.1.cell (j := 7) rfl⟩ ?_
  refine wpAnyH_take (i := 3) (v := (.int .i64 s.acc)) rfl (by kernel_rfl) (by kernel_rfl) (by kernel_rfl) (fun _ _ _ h => h) (Or.inl ⟨by kernel_rfl, fun W hW => by (obtain ⟨c2, c3, c4, c5, c6, c7⟩ := hW; go_simp)⟩) ⟨FX.out.1.cell (j := 2) rfl, FX.out.1.cell (j := 3) rfl, FX.out.1.cell (j := 4) rfl, FX.out.1.cell (j := 5) rfl, FX.out.1.cell (j := 6) rfl, FX.out.1.cell (j := 7) rfl⟩ ?_
  refine wpAnyH_take (i := 4) (v := .pointer (some ⟨w.heap.size, 4, none⟩)) rfl (by kernel_rfl) (by kernel_rfl) (by kernel_rfl) (fun _ _ _ h => h) (Or.inl ⟨by kernel_rfl, fun _ _ => by go_simp⟩) ⟨FX.out.1.cell (j := 2) rfl, FX.out.1.cell (j := 3) rfl, FX.out.1.cell (j := 4) rfl, FX.out.1.cell (j := 5) rfl, FX.out.1.cell (j := 6) rfl, FX.out.1.cell (j := 7) rfl⟩ ?_
  refine wpAnyH_take (i := 5) (v := (.bool s.col)) rfl (by kernel_rfl) (by kernel_rfl) (by kernel_rfl) (fun _ _ _ h => h) (Or.inl ⟨by kernel_rfl, fun W hW => by (obtain ⟨c2, c3, c4, c5, c6, c7⟩ := hW; go_simp)⟩) ⟨FX.out.1.cell (j := 2) rfl, FX.out.1.cell (j := 3) rfl, FX.out.1.cell (j := 4) rfl, FX.out.1.cell (j := 5) rfl, FX.out.1.cell (j := 6) rfl, FX.out.1.cell (j := 7) rfl⟩ ?_
  refine wpAnyH_take (i := 6) (v := .pointer (some ⟨w.heap.size, 5, none⟩)) rfl (by kernel_rfl) (by kernel_rfl) (by kernel_rfl) (fun _ _ _ h => h) (Or.inl ⟨by kernel_rfl, fun _ _ => by go_simp⟩) ⟨FX.out.1.cell (j := 2) rfl, FX.out.1.cell (j := 3) rfl, FX.out.1.cell (j := 4) rfl, FX.out.1.cell (j := 5) rfl, FX.out.1.cell (j := 6) rfl, FX.out.1.cell (j := 7) rfl⟩ ?_
  refine wpAnyH_take (i := 7) (v := (.int .i64 s.stem)) rfl (by kernel_rfl) (by kernel_rfl) (by kernel_rfl) (fun _ _ _ h => h) (Or.inl ⟨by kernel_rfl, fun W hW => by (obtain ⟨c2, c3, c4, c5, c6, c7⟩ := hW; go_simp)⟩) ⟨FX.out.1.cell (j := 2) rfl, FX.out.1.cell (j := 3) rfl, FX.out.1.cell (j := 4) rfl, FX.out.1.cell (j := 5) rfl, FX.out.1.cell (j := 6) rfl, FX.out.1.cell (j := 7) rfl⟩ ?_
  refine wpAnyH_take (i := 8) (v := .pointer (some ⟨w.heap.size, 6, none⟩)) rfl (by kernel_rfl) (by kernel_rfl) (by kernel_rfl) (fun _ _ _ h => h) (Or.inl ⟨by kernel_rfl, fun _ _ => by go_simp⟩) ⟨FX.out.1.cell (j := 2) rfl, FX.out.1.cell (j := 3) rfl, FX.out.1.cell (j := 4) rfl, FX.out.1.cell (j := 5) rfl, FX.out.1.cell (j := 6) rfl, FX.out.1.cell (j := 7) rfl⟩ ?_
  refine wpAnyH_take (i := 9) (v := (.bool s.obl)) rfl (by kernel_rfl) (by kernel_rfl) (by kernel_rfl) (fun _ _ _ h => h) (Or.inl ⟨by kernel_rfl, fun W hW => by (obtain ⟨c2, c3, c4, c5, c6, c7⟩ := hW; go_simp)⟩) ⟨FX.out.1.cell (j := 2) rfl, FX.out.1.cell (j := 3) rfl, FX.out.1.cell (j := 4) rfl, FX.out.1.cell (j := 5) rfl, FX.out.1.cell (j := 6) rfl, FX.out.1.cell (j := 7) rfl⟩ ?_
  refine wpAnyH_take (i := 10) (v := .pointer (some ⟨w.heap.size, 7, none⟩)) rfl (by kernel_rfl) (by kernel_rfl) (by kernel_rfl) (fun _ _ _ h => h) (Or.inl ⟨by kernel_rfl, fun _ _ => by go_simp⟩) ⟨FX.out.1.cell (j := 2) rfl, FX.out.1.cell (j := 3) rfl, FX.out.1.cell (j := 4) rfl, FX.out.1.cell (j := 5) rfl, FX.out.1.cell (j := 6) rfl, FX.out.1.cell (j := 7) rfl⟩ ?_
  refine wpAnyH_take (i := 11) (v := (.bool s.last)) rfl (by kernel_rfl) (by kernel_rfl) (by kernel_rfl) (fun _ _ _ h => h) (Or.inl ⟨by kernel_rfl, fun W hW => by (obtain ⟨c2, c3, c4, c5, c6, c7⟩ := hW; go_simp)⟩) ⟨FX.out.1.cell (j := 2) rfl, FX.out.1.cell (j := 3) rfl, FX.out.1.cell (j := 4) rfl, FX.out.1.cell (j := 5) rfl, FX.out.1.cell (j := 6) rfl, FX.out.1.cell (j := 7) rfl⟩ ?_
  refine wpAnyH_take (i := 12) (v := .pointer (some ⟨w.heap.size + 1 + 1, 2, none⟩)) rfl (by kernel_rfl) (by kernel_rfl) (by kernel_rfl) (fun _ _ _ h => h) (Or.inl ⟨by kernel_rfl, fun _ _ => by go_simp⟩) ⟨FX.out.1.cell (j := 2) rfl, FX.out.1.cell (j := 3) rfl, FX.out.1.cell (j := 4) rfl, FX.out.1.cell (j := 5) rfl, FX.out.1.cell (j := 6) rfl, FX.out.1.cell (j := 7) rfl⟩ ?_
  simp only [Act.put, List.getElem_toArray, List.getElem_cons_succ, List.getElem_cons_zero, List.setIfInBounds_toArray, List.set_cons_succ, List.set_cons_zero]
  have x2 := FX.out.2.1.cell (j := 2) rfl
  have ff := FX.out.2.1.frozen
  refine wpAnyH_ready (rs := [13]) (by kernel_rfl) (by simp) ?_
  refine AllReadyH.cons rfl (fun K hK => ?_) AllReadyH.nil
  rw [if_pos (by kernel_rfl)]
  go_simp
  replace FX := Lib.hid (show HoldsB (z0.setCell ⟨w.heap.size + 1 + 1, 2, none⟩ (.int .i64 s.place)) w.heap.size 27 (sgA s) ∧ HoldsB (z0.setCell ⟨w.heap.size + 1 + 1, 2, none⟩ (.int .i64 s.place)) (w.heap.size + 1 + 1) 27 ((sgA (knS 4)).setIfInBounds 2 (.int .i64 s.place)) ∧ HoldsB (z0.setCell ⟨w.heap.size + 1 + 1, 2, none⟩ (.int .i64 s.place)) (w.heap.size + 1) 27 (sgA zS) ∧ Below w.heap.size w (z0.setCell ⟨w.heap.size + 1 + 1, 2, none⟩ (.int .i64 s.place)) from ⟨(FX.out.1.other nb 2 (.int .i64 s.place)), (FX.out.2.1.set 2 (.int .i64 s.place)), (FX.out.2.2.1.other np 2 (.int .i64 s.place)), (w_put (b := w.heap.size + 1 + 1) FX.out.2.2.2 (by omega) 2 (.int .i64 s.place))⟩)
  refine hK.out _ _ ⟨FX.out.1.cell (j := 2) rfl, FX.out.1.cell (j := 3) rfl, FX.out.1.cell (j := 4) rfl, FX.out.1.cell (j := 5) rfl, FX.out.1.cell (j := 6) rfl, FX.out.1.cell (j := 7) rfl⟩ (fun _ => ?_)
  clear hK K ff x2
  generalize (z0.setCell ⟨w.heap.size + 1 + 1, 2, none⟩ (.int .i64 s.place)) = z1 at *
  refine wpAnyH_take (i := 14) (v := .pointer (some ⟨w.heap.size + 1 + 1, 3, none⟩)) rfl (by kernel_rfl) (by kernel_rfl) (by kernel_rfl) (fun _ _ _ h => h) (Or.inl ⟨by kernel_rfl, fun _ _ => by go_simp⟩) ⟨FX.out.1.cell (j := 2) rfl, FX.out.1.cell (j := 3) rfl, FX.out.1.cell (j := 4) rfl, FX.out.1.cell (j := 5) rfl, FX.out.1.cell (j := 6) rfl, FX.out.1.cell (j := 7) rfl⟩ ?_
  simp only [Act.put, List.getElem_toArray, List.getElem_cons_succ, List.getElem_cons_zero, List.setIfInBounds_toArray, List.set_cons_succ, List.set_cons_zero]
  have x3 := FX.out.2.1.cell (j := 3) rfl
  have ff := FX.out.2.1.frozen
  refine wpAnyH_ready (rs := [15]) (by kernel_rfl) (by simp) ?_
  refine AllReadyH.cons rfl (fun K hK => ?_) AllReadyH.nil
  rw [if_pos (by kernel_rfl)]
  go_simp
  replace FX := Lib.hid (show HoldsB (z1.setCell ⟨w.heap.size + 1 + 1, 3, none⟩ (.int .i64 s.acc)) w.heap.size 27 (sgA s) ∧ HoldsB (z1.setCell ⟨w.heap.size + 1 + 1, 3, none⟩ (.int .i64 s.acc)) (w.heap.size + 1 + 1) 27 (((sgA (knS 4)).setIfInBounds 2 (.int .i64 s.place)).setIfInBounds 3 (.int .i64 s.acc)) ∧ HoldsB (z1.setCell ⟨w.heap.size + 1 + 1, 3, none⟩ (.int .i64 s.acc)) (w.heap.size + 1) 27 (sgA zS) ∧ Below w.heap.size w (z1.setCell ⟨w.heap.size + 1 + 1, 3, none⟩ (.int .i64 s.acc)) from ⟨(FX.out.1.other nb 3 (.int .i64 s.acc)), (FX.out.2.1.set 3 (.int .i64 s.acc)), (FX.out.2.2.1.other np 3 (.int .i64 s.acc)), (w_put (b := w.heap.size + 1 + 1) FX.out.2.2.2 (by omega) 3 (.int .i64 s.acc))⟩)
  refine hK.out _ _ ⟨FX.out.1.cell (j := 2) rfl, FX.out.1.cell (j := 3) rfl, FX.out.1.cell (j := 4) rfl, FX.out.1.cell (j := 5) rfl, FX.out.1.cell (j := 6) rfl, FX.out.1.cell (j := 7) rfl⟩ (fun _ => ?_)
  clear hK K ff x3
  generalize (z1.setCell ⟨w.heap.size + 1 + 1, 3, none⟩ (.int .i64 s.acc)) = z2 at *
  refine wpAnyH_take (i := 16) (v := .pointer (some ⟨w.heap.size + 1 + 1, 4, none⟩)) rfl (by kernel_rfl) (by kernel_rfl) (by kernel_rfl) (fun _ _ _ h => h) (Or.inl ⟨by kernel_rfl, fun _ _ => by go_simp⟩) ⟨FX.out.1.cell (j := 2) rfl, FX.out.1.cell (j := 3) rfl, FX.out.1.cell (j := 4) rfl, FX.out.1.cell (j := 5) rfl, FX.out.1.cell (j := 6) rfl, FX.out.1.cell (j := 7) rfl⟩ ?_
  simp only [Act.put, List.getElem_toArray, List.getElem_cons_succ, List.getElem_cons_zero, List.setIfInBounds_toArray, List.set_cons_succ, List.set_cons_zero]
  have x4 := FX.out.2.1.cell (j := 4) rfl
  have ff := FX.out.2.1.frozen
  refine wpAnyH_ready (rs := [17]) (by kernel_rfl) (by simp) ?_
  refine AllReadyH.cons rfl (fun K hK => ?_) AllReadyH.nil
  rw [if_pos (by kernel_rfl)]
  go_simp
  replace FX := Lib.hid (show HoldsB (z2.setCell ⟨w.heap.size + 1 + 1, 4, none⟩ (.bool s.col)) w.heap.size 27 (sgA s) ∧ HoldsB (z2.setCell ⟨w.heap.size + 1 + 1, 4, none⟩ (.bool s.col)) (w.heap.size + 1 + 1) 27 ((((sgA (knS 4)).setIfInBounds 2 (.int .i64 s.place)).setIfInBounds 3 (.int .i64 s.acc)).setIfInBounds 4 (.bool s.col)) ∧ HoldsB (z2.setCell ⟨w.heap.size + 1 + 1, 4, none⟩ (.bool s.col)) (w.heap.size + 1) 27 (sgA zS) ∧ Below w.heap.size w (z2.setCell ⟨w.heap.size + 1 + 1, 4, none⟩ (.bool s.col)) from ⟨(FX.out.1.other nb 4 (.bool s.col)), (FX.out.2.1.set 4 (.bool s.col)), (FX.out.2.2.1.other np 4 (.bool s.col)), (w_put (b := w.heap.size + 1 + 1) FX.out.2.2.2 (by omega) 4 (.bool s.col))⟩)
  refine hK.out _ _ ⟨FX.out.1.cell (j := 2) rfl, FX.out.1.cell (j := 3) rfl, FX.out.1.cell (j := 4) rfl, FX.out.1.cell (j := 5) rfl, FX.out.1.cell (j := 6) rfl, FX.out.1.cell (j := 7) rfl⟩ (fun _ => ?_)
  clear hK K ff x4
  generalize (z2.setCell ⟨w.heap.size + 1 + 1, 4, none⟩ (.bool s.col)) = z3 at *
  refine wpAnyH_take (i := 18) (v := .pointer (some ⟨w.heap.size + 1 + 1, 5, none⟩)) rfl (by kernel_rfl) (by kernel_rfl) (by kernel_rfl) (fun _ _ _ h => h) (Or.inl ⟨by kernel_rfl, fun _ _ => by go_simp⟩) ⟨FX.out.1.cell (j := 2) rfl, FX.out.1.cell (j := 3) rfl, FX.out.1.cell (j := 4) rfl, FX.out.1.cell (j := 5) rfl, FX.out.1.cell (j := 6) rfl, FX.out.1.cell (j := 7) rfl⟩ ?_
  simp only [Act.put, List.getElem_toArray, List.getElem_cons_succ, List.getElem_cons_zero, List.setIfInBounds_toArray, List.set_cons_succ, List.set_cons_zero]
  have x5 := FX.out.2.1.cell (j := 5) rfl
  have ff := FX.out.2.1.frozen
  refine wpAnyH_ready (rs := [19]) (by kernel_rfl) (by simp) ?_
  refine AllReadyH.cons rfl (fun K hK => ?_) AllReadyH.nil
  rw [if_pos (by kernel_rfl)]
  go_simp
  replace FX := Lib.hid (show HoldsB (z3.setCell ⟨w.heap.size + 1 + 1, 5, none⟩ (.int .i64 s.stem)) w.heap.size 27 (sgA s) ∧ HoldsB (z3.setCell ⟨w.heap.size + 1 + 1, 5, none⟩ (.int .i64 s.stem)) (w.heap.size + 1 + 1) 27 (((((sgA (knS 4)).setIfInBounds 2 (.int .i64 s.place)).setIfInBounds 3 (.int .i64 s.acc)).setIfInBounds 4 (.bool s.col)).setIfInBounds 5 (.int .i64 s.stem)) ∧ HoldsB (z3.setCell ⟨w.heap.size + 1 + 1, 5, none⟩ (.int .i64 s.stem)) (w.heap.size + 1) 27 (sgA zS) ∧ Below w.heap.size w (z3.setCell ⟨w.heap.size + 1 + 1, 5, none⟩ (.int .i64 s.stem)) from ⟨(FX.out.1.other nb 5 (.int .i64 s.stem)), (FX.out.2.1.set 5 (.int .i64 s.stem)), (FX.out.2.2.1.other np 5 (.int .i64 s.stem)), (w_put (b := w.heap.size + 1 + 1) FX.out.2.2.2 (by omega) 5 (.int .i64 s.stem))⟩)
  refine hK.out _ _ ⟨FX.out.1.cell (j := 2) rfl, FX.out.1.cell (j := 3) rfl, FX.out.1.cell (j := 4) rfl, FX.out.1.cell (j := 5) rfl, FX.out.1.cell (j := 6) rfl, FX.out.1.cell (j := 7) rfl⟩ (fun _ => ?_)
  clear hK K ff x5
  generalize (z3.setCell ⟨w.heap.size + 1 + 1, 5, none⟩ (.int .i64 s.stem)) = z4 at *
  refine wpAnyH_take (i := 20) (v := .pointer (some ⟨w.heap.size + 1 + 1, 6, none⟩)) rfl (by kernel_rfl) (by kernel_rfl) (by kernel_rfl) (fun _ _ _ h => h) (Or.inl ⟨by kernel_rfl, fun _ _ => by go_simp⟩) ⟨FX.out.1.cell (j := 2) rfl, FX.out.1.cell (j := 3) rfl, FX.out.1.cell (j := 4) rfl, FX.out.1.cell (j := 5) rfl, FX.out.1.cell (j := 6) rfl, FX.out.1.cell (j := 7) rfl⟩ ?_
  simp only [Act.put, List.getElem_toArray, List.getElem_cons_succ, List.getElem_cons_zero, List.setIfInBounds_toArray, List.set_cons_succ, List.set_cons_zero]
  have x6 := FX.out.2.1.cell (j := 6) rfl
  have ff := FX.out.2.1.frozen
  refine wpAnyH_ready (rs := [21]) (by kernel_rfl) (by simp) ?_
  refine AllReadyH.cons rfl (fun K hK => ?_) AllReadyH.nil
  rw [if_pos (by kernel_rfl)]
  go_simp
  replace FX := Lib.hid (show HoldsB (z4.setCell ⟨w.heap.size + 1 + 1, 6, none⟩ (.bool s.obl)) w.heap.size 27 (sgA s) ∧ HoldsB (z4.setCell ⟨w.heap.size + 1 + 1, 6, none⟩ (.bool s.obl)) (w.heap.size + 1 + 1) 27 ((((((sgA (knS 4)).setIfInBounds 2 (.int .i64 s.place)).setIfInBounds 3 (.int .i64 s.acc)).setIfInBounds 4 (.bool s.col)).setIfInBounds 5 (.int .i64 s.stem)).setIfInBounds 6 (.bool s.obl)) ∧ HoldsB (z4.setCell ⟨w.heap.size + 1 + 1, 6, none⟩ (.bool s.obl)) (w.heap.size + 1) 27 (sgA zS) ∧ Below w.heap.size w (z4.setCell ⟨w.heap.size + 1 + 1, 6, none⟩ (.bool s.obl)) from ⟨(FX.out.1.other nb 6 (.bool s.obl)), (FX.out.2.1.set 6 (.bool s.obl)), (FX.out.2.2.1.other np 6 (.bool s.obl)), (w_put (b := w.heap.size + 1 + 1) FX.out.2.2.2 (by omega) 6 (.bool s.obl))⟩)
  refine hK.out _ _ ⟨FX.out.1.cell (j := 2) rfl, FX.out.1.cell (j := 3) rfl, FX.out.1.cell (j := 4) rfl, FX.out.1.cell (j := 5) rfl, FX.out.1.cell (j := 6) rfl, FX.out.1.cell (j := 7) rfl⟩ (fun _ => ?_)
  clear hK K ff x6
  generalize (z4.setCell ⟨w.heap.size + 1 + 1, 6, none⟩ (.bool s.obl)) = z5 at *
  refine wpAnyH_take (i := 22) (v := .pointer (some ⟨w.heap.size + 1 + 1, 7, none⟩)) rfl (by kernel_rfl) (by kernel_rfl) (by kernel_rfl) (fun _ _ _ h => h) (Or.inl ⟨by kernel_rfl, fun _ _ => by go_simp⟩) ⟨FX.out.1.cell (j := 2) rfl, FX.out.1.cell (j := 3) rfl, FX.out.1.cell (j := 4) rfl, FX.out.1.cell (j := 5) rfl, FX.out.1.cell (j := 6) rfl, FX.out.1.cell (j := 7) rfl⟩ ?_
  simp only [Act.put, List.getElem_toArray, List.getElem_cons_succ, List.getElem_cons_zero, List.setIfInBounds_toArray, List.set_cons_succ, List.set_cons_zero]
  have x7 := FX.out.2.1.cell (j := 7) rfl
  have ff := FX.out.2.1.frozen
  refine wpAnyH_ready (rs := [23]) (by kernel_rfl) (by simp) ?_
  refine AllReadyH.cons rfl (fun K hK => ?_) AllReadyH.nil
  rw [if_pos (by kernel_rfl)]
  go_simp
  replace FX := Lib.hid (show HoldsB (z5.setCell ⟨w.heap.size + 1 + 1, 7, none⟩ (.bool s.last)) w.heap.size 27 (sgA s) ∧ HoldsB (z5.setCell ⟨w.heap.size + 1 + 1, 7, none⟩ (.bool s.last)) (w.heap.size + 1 + 1) 27 (((((((sgA (knS 4)).setIfInBounds 2 (.int .i64 s.place)).setIfInBounds 3 (.int .i64 s.acc)).setIfInBounds 4 (.bool s.col)).setIfInBounds 5 (.int .i64 s.stem)).setIfInBounds 6 (.bool s.obl)).setIfInBounds 7 (.bool s.last)) ∧ HoldsB (z5.setCell ⟨w.heap.size + 1 + 1, 7, none⟩ (.bool s.last)) (w.heap.size + 1) 27 (sgA zS) ∧ Below w.heap.size w (z5.setCell ⟨w.heap.size + 1 + 1, 7, none⟩ (.bool s.last)) from ⟨(FX.out.1.other nb 7 (.bool s.last)), (FX.out.2.1.set 7 (.bool s.last)), (FX.out.2.2.1.other np 7 (.bool s.last)), (w_put (b := w.heap.size + 1 + 1) FX.out.2.2.2 (by omega) 7 (.bool s.last))⟩)
  refine hK.out _ _ ⟨FX.out.1.cell (j := 2) rfl, FX.out.1.cell (j := 3) rfl, FX.out.1.cell (j := 4) rfl, FX.out.1.cell (j := 5) rfl, FX.out.1.cell (j := 6) rfl, FX.out.1.cell (j := 7) rfl⟩ (fun _ => ?_)
  clear hK K ff x7
  generalize (z5.setCell ⟨w.heap.size + 1 + 1, 7, none⟩ (.bool s.last)) = z6 at *
  refine wpAnyH_done (by kernel_rfl) ?_ _
  have H2 := Lib.hid (show HoldsB z6 (w.heap.size + 1 + 1) 27 (sgA ⟨4, 0, s.place, s.acc, s.col, s.stem, s.obl, s.last, 0, 0, 0, 0, false, 0, 0, 0, 0⟩) from FX.out.2.1)
  have H3 := Lib.hid FX.out.2.2.1
  have B2 := Lib.hid FX.out.2.2.2
  clear FX
  go_wp2_with (first | (refine wl_load (w.heap.size + 1 + 1) 0 ⟨4, 0, s.place, s.acc, s.col, s.stem, s.obl, s.last, 0, 0, 0, 0, false, 0, 0, 0, 0⟩ (by kernel_rfl) H2.out.sg ?_) | (refine wl_rowS (w.heap.size + 1) _ ⟨4, 0, s.place, s.acc, s.col, s.stem, s.obl, s.last, 0, 0, 0, 0, false, 0, 0, 0, 0⟩ H3.out (by kernel_rfl) (by kernel_rfl) rfl ?_) | fail)
  intro W' h1 h2 h3
  have B5 := Lib.hid (h2 _ _ B2.out (by omega))
  clear h2 h3
  go_wp2_with fail
  exact bodyPost_ret (res_sg rfl (by kernel_rfl) h1.sg) rfl ⟨rfl, B5.out⟩
end Go.Proofs.YtcomjcflllfobaaDoor
