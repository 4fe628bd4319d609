/- SignOnes: a sign by itself, its class, its full duration. -/
import Derived.Test.YtcomjcflllfobaaDoorSAwake
namespace Go.Proofs.YtcomjcflllfobaaDoor
open Go.RowKit

set_option maxRecDepth 100000 in
set_option maxHeartbeats 8000000 in
theorem lones_any (s : Sg) (q : Q4) (w : World) (T : TabS w) : Calls Tryd.prog 3 #[sgv s, mv q] w fun e w' => e = .returned (.bool true) ∧ Below w.heap.size w w' := by
  have C1 := Lib.hid (fun W => pcls_any s.kind W)
  have C2 := Lib.hid (fun W => rcls_any s.kind W)
  have P1 := Lib.hid (show ∀ W, Below w.heap.size w W → Calls Tryd.prog 12 #[mv q, sgv s] W fun e w' => e = .returned (tev (plnV q s)) ∧ Below W.heap.size W w' from fun W b => ppln_any q s W (T.later b))
  have P2 := Lib.hid (fun W => rpln_any q s W)
  have O1 := Lib.hid (show ∀ W, Below w.heap.size w W → Calls Tryd.prog 14 #[sgv s] W fun e w' => e = .returned (.int .i64 (oneE s)) ∧ Below W.heap.size W w' from fun W b => pone_any s W (T.later b))
  have O2 := Lib.hid (fun W => rone_any s W)
  have AW := Lib.hid (show ∀ W, Below w.heap.size w W → Calls Tryd.prog 16 #[] W fun e w' => e = .returned (.bool true) ∧ Below W.heap.size W w' from fun W b => awake_any W (T.later b))
  clear T
  have HS := Lib.hid ((sg_new w s).al (mO q))
  have HM := Lib.hid (Cell4.made (w.alloc (sgO s)) q 23)
  rw [World.size_alloc] at HM
  have B := Lib.hid (w_alloc (w_alloc (w_refl w) (sgO s)) (mO q))
  generalize clsV s.kind = R at *
  generalize plnV q s = R2 at *
  generalize oneE s = E1 at *
  obtain ⟨r1, r2⟩ := R
  obtain ⟨M, D, E⟩ := R2
  obtain ⟨a, b, c, d⟩ := q
  simp only at C1 C2 P1 P2
  go_enter Tryd.func3, Tryd.ntmps3
  go_upto_region 1 with (first | (refine wl_box s (by kernel_rfl) ?_) | fail)
  generalize (w.alloc (sgO s)).alloc (mO (a, b, c, d)) = y at *
  have k0 := HS.out.cell (j := 0) (v := .int .i64 s.kind) rfl
  go_wp2_with fail
  refine (C1.out _).mono ?_
  rintro e w1 ⟨rfl, rfl⟩
  clear C1
  go_wp2_with fail
  refine (C2.out _).mono ?_
  rintro e w1 ⟨rfl, rfl⟩
  clear C2 k0
  obtain ⟨_, c0, c1, c2, c3, _, _, _, _⟩ := HM.out
  go_wp2_with (first | (refine wl_load w.heap.size 0 s (by kernel_rfl) HS.out.sg ?_) | fail)
  refine (P1.out _ B.out).mono ?_
  rintro e wa ⟨rfl, hb⟩
  have hba := w_alloc hb (.cells #[.int .i64 M, .int .i64 D] 32)
  replace B := Lib.hid (w_below B.out hba)
  replace HS := Lib.hid (HS.out.later hba)
  replace HM := Lib.hid (HM.out.later hba)
  have HT := Lib.hid (HoldsB.new wa 32 #[.int .i64 M, .int .i64 D])
  clear hb hba P1 c0 c1 c2 c3
  go_upto_region 4 with (fail)
  obtain ⟨b9, hb9⟩ : ∃ b9, wa.heap.size = b9 := ⟨_, rfl⟩
  rw [hb9] at HT ⊢
  clear hb9
  generalize wa.alloc (.cells #[.int .i64 M, .int .i64 D] 32) = y2 at *
  obtain ⟨_, c0, c1, c2, c3, _, _, _, _⟩ := HM.out
  go_wp2_with (first | (refine wl_load w.heap.size 0 s (by kernel_rfl) HS.out.sg ?_) | fail)
  refine (P2.out _).mono ?_
  rintro e wb ⟨rfl, hb⟩
  have hba := w_alloc hb (.cells #[.int .i64 M, .int .i64 D] 32)
  replace B := Lib.hid (w_below B.out hba)
  replace HS := Lib.hid (HS.out.later hba)
  replace HT := Lib.hid (HT.out.later hba)
  have HU := Lib.hid (HoldsB.new wb 32 #[.int .i64 M, .int .i64 D])
  clear hb hba P2 c0 c1 c2 c3 HM
  go_wp2_with fail
  obtain ⟨b8, hb8⟩ : ∃ b8, wb.heap.size = b8 := ⟨_, rfl⟩
  rw [hb8] at HU ⊢
  clear hb8
  generalize wb.alloc (.cells #[.int .i64 M, .int .i64 D] 32) = z at *
  have KO := Lib.hid (show ∀ n : Grown z, Calls Tryd.prog 14 #[sgv s] n.W fun e w' => e = .returned (.int .i64 E1) ∧ Grew z w' from fun n => (O1.out n.W (w_below B.out n.b)).mono fun e w' ⟨h1, h2⟩ => ⟨h1, n.on h2, rfl⟩)
  have KR := Lib.hid (show ∀ n : Grown z, Calls Tryd.prog 15 #[sgv s] n.W fun e w' => e = .returned (.int .i64 E1) ∧ Grew z w' from fun n => (O2.out n.W).mono fun e w' ⟨h1, h2⟩ => ⟨h1, n.on h2, rfl⟩)
  have KA := Lib.hid (show ∀ n : Grown z, Calls Tryd.prog 16 #[] n.W fun e w' => e = .returned (.bool true) ∧ Grew z w' from fun n => (AW.out n.W (w_below B.out n.b)).mono fun e w' ⟨h1, h2⟩ => ⟨h1, n.on h2, rfl⟩)
  have t0 : ∀ n : Grown z, n.W.cell? ⟨b9, 0, none⟩ = some (.int .i64 M) := fun n => (HT.out.later n.b).cell (j := 0) rfl
  have t1 : ∀ n : Grown z, n.W.cell? ⟨b9, 1, none⟩ = some (.int .i64 D) := fun n => (HT.out.later n.b).cell (j := 1) rfl
  have u0 : ∀ n : Grown z, n.W.cell? ⟨b8, 0, none⟩ = some (.int .i64 M) := fun n => (HU.out.later n.b).cell (j := 0) rfl
  have u1 : ∀ n : Grown z, n.W.cell? ⟨b8, 1, none⟩ = some (.int .i64 D) := fun n => (HU.out.later n.b).cell (j := 1) rfl
  clear O1 O2 AW HT HU
  refine wp_region_grown (by kernel_rfl) (by kernel_rfl) ?_
  refine quiet_load (v := sgv s) (sg_yields (.tmp 2) w.heap.size 0 s (by kernel_rfl) rfl (by kernel_rfl) (fun _ ⟨n, e⟩ => e ▸ (HS.out.later n.b).sg)) (by simp only [Act.put, List.setIfInBounds_toArray, List.set_cons_succ, List.set_cons_zero]; rfl) ?_
  go_big_quiet_step (exact KO.out _)
  refine quiet_load (v := sgv s) (sg_yields (.tmp 2) w.heap.size 0 s (by kernel_rfl) rfl (by kernel_rfl) (fun _ ⟨n, e⟩ => e ▸ (HS.out.later n.b).sg)) (by simp only [Act.put, List.setIfInBounds_toArray, List.set_cons_succ, List.set_cons_zero]; rfl) ?_
  repeat (go_big_quiet_step ((first | exact KR.out _ | exact KA.out _)))
  refine wpQuiet_nil ?_
  intro n
  go_wp2_with fail
  go_ret
  exact ⟨rfl, w_below B.out n.b⟩

end Go.Proofs.YtcomjcflllfobaaDoor
