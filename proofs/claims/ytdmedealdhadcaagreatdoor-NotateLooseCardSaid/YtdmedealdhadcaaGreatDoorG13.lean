/- The program's ranges of fields. The program's error of a sign by itself. -/
import Derived.Test.YtdmedealdhadcaaGreatDoorG12

namespace Go.Proofs.YtdmedealdhadcaaGreatDoor
open Go.RowKit
attribute [local go_sem] sgA_g0 sgA_g1 sgA_g2 sgA_g3 sgA_g4 sgA_g5 sgA_g6 sgA_g7 sgA_g8 sgA_g9 sgA_g10 sgA_g11 sgA_g12 sgA_g13 sgA_g14 sgA_g15 sgA_g16
set_option maxRecDepth 100000 in
set_option maxHeartbeats 8000000 in
theorem prng_any (s : Sg) (hk : kOk s.kind) (w : World) (T : TabS w) : Calls Tryz.prog 63 #[sgv s] w fun e w' => e = .returned (.bool (rngB s)) ∧ Below w.heap.size w w' := by
  have HN := sg_new w s
  have B1 := Lib.hid (w_alloc (w_refl w) (sgO s))
  have HL := Lib.hid HN.sg
  have T1 := Lib.hid (T.al (sgO s))
  rcases kinds_of hk with h | h | h | h | h | h | h | h | h | h | h | h
  all_goals clear hk
  · have k0 : (w.alloc (sgO s)).cell? ⟨w.heap.size, 0, none⟩ = some (.int .i64 1) := by have := HN.cell (j := 0) (v := .int .i64 s.kind) rfl; rw [h] at this; exact this
    have k1 := HN.cell (j := 1) (v := .int .i64 s.val) rfl
    have k2 := HN.cell (j := 2) (v := .int .i64 s.place) rfl
    have k3 := HN.cell (j := 3) (v := .int .i64 s.acc) rfl
    have HR : rngB s = (inB s.val 1 8 && plcB s) := by unfold rngB; rw [if_pos h]
    have C1 := Lib.hid (fun W => pval_any s.val W)
    have C2 := Lib.hid (fun W => pplc_any s W)
    rw [HR]
    clear HN HR h T T1
    generalize inB s.val 1 8 = b1 at *
    generalize plcB s = b2 at *
    cases b1 with
    | true =>
      go_enter Tryz.func63, Tryz.ntmps63
      go_wp2_with (first | (refine wl_box s (by kernel_rfl) ?_) | fail)
      refine (C1.out _).mono ?_
      rintro e w1 ⟨rfl, rfl⟩
      go_wp2_with (first | (refine wl_loadG w.heap.size 0 s (by kernel_rfl) (by kernel_rfl) HL.out ?_) | fail)
      refine (C2.out _).mono ?_
      rintro e w1 ⟨rfl, hb⟩
      replace k1 := cell_later hb k1
      replace k2 := cell_later hb k2
      replace k3 := cell_later hb k3
      have k0' := cell_later hb k0
      replace B1 := Lib.hid (w_below B1.out hb)
      clear hb k0 C2
      go_wp2_with fail
      go_ret
      exact ⟨rfl, B1.out⟩
    | false =>
      go_enter Tryz.func63, Tryz.ntmps63
      go_wp2_with (first | (refine wl_box s (by kernel_rfl) ?_) | fail)
      refine (C1.out _).mono ?_
      rintro e w1 ⟨rfl, rfl⟩
      go_wp2_with fail
      go_ret
      exact ⟨rfl, B1.out⟩
  · have k0 : (w.alloc (sgO s)).cell? ⟨w.heap.size, 0, none⟩ = some (.int .i64 2) := by have := HN.cell (j := 0) (v := .int .i64 s.kind) rfl; rw [h] at this; exact this
    have k1 := HN.cell (j := 1) (v := .int .i64 s.val) rfl
    have HR : rngB s = (inB s.val 1 8) := by unfold rngB; rw [if_neg (by omega), if_pos h]
    have C := Lib.hid (fun W => pval_any s.val W)
    rw [HR]
    clear HN HR h T T1
    generalize inB s.val 1 8 = b at *
    go_enter Tryz.func63, Tryz.ntmps63
    go_wp2_with (first | (refine wl_box s (by kernel_rfl) ?_) | fail)
    refine (C.out _).mono ?_
    rintro e w1 ⟨rfl, rfl⟩
    go_wp2_with fail
    go_ret
    exact ⟨rfl, B1.out⟩
  · have k0 : (w.alloc (sgO s)).cell? ⟨w.heap.size, 0, none⟩ = some (.int .i64 3) := by have := HN.cell (j := 0) (v := .int .i64 s.kind) rfl; rw [h] at this; exact this
    have HR : rngB s = (true) := by unfold rngB; rw [if_neg (by omega), if_neg (by omega), if_neg (by omega), if_neg (by omega), if_neg (by omega), if_neg (by omega), if_neg (by omega)]
    rw [HR]
    clear HN HR h T T1
    go_enter Tryz.func63, Tryz.ntmps63
    go_wp2_with (first | (refine wl_box s (by kernel_rfl) ?_) | fail)
    go_ret
    exact ⟨rfl, B1.out⟩
  · have k0 : (w.alloc (sgO s)).cell? ⟨w.heap.size, 0, none⟩ = some (.int .i64 4) := by have := HN.cell (j := 0) (v := .int .i64 s.kind) rfl; rw [h] at this; exact this
    have k2 := HN.cell (j := 2) (v := .int .i64 s.place) rfl
    have k3 := HN.cell (j := 3) (v := .int .i64 s.acc) rfl
    have k5 := HN.cell (j := 5) (v := .int .i64 s.stem) rfl
    have HR : rngB s = (plcB s && inB s.stem 0 3) := by unfold rngB; rw [if_neg (by omega), if_neg (by omega), if_pos h]
    have C1 := Lib.hid (fun W => pplc_any s W)
    have C2 := Lib.hid (fun W => pfrom_any s.stem 0 3 W)
    rw [HR]
    clear HN HR h T T1
    generalize inB s.stem 0 3 = b2 at *
    generalize plcB s = b1 at *
    cases b1 with
    | false =>
      go_enter Tryz.func63, Tryz.ntmps63
      go_wp2_with (first | (refine wl_box s (by kernel_rfl) ?_) | (refine wl_load w.heap.size 0 s (by kernel_rfl) HL.out ?_) | fail)
      refine (C1.out _).mono ?_
      rintro e w1 ⟨rfl, hb⟩
      replace k2 := cell_later hb k2
      replace k3 := cell_later hb k3
      replace k5 := cell_later hb k5
      have k0' := cell_later hb k0
      replace B1 := Lib.hid (w_below B1.out hb)
      clear hb k0 C1
      go_wp2_with fail
      go_ret
      exact ⟨rfl, B1.out⟩
    | true =>
      go_enter Tryz.func63, Tryz.ntmps63
      go_wp2_with (first | (refine wl_box s (by kernel_rfl) ?_) | (refine wl_load w.heap.size 0 s (by kernel_rfl) HL.out ?_) | fail)
      refine (C1.out _).mono ?_
      rintro e w1 ⟨rfl, hb⟩
      replace k2 := cell_later hb k2
      replace k3 := cell_later hb k3
      replace k5 := cell_later hb k5
      have k0' := cell_later hb k0
      replace B1 := Lib.hid (w_below B1.out hb)
      clear hb k0 C1
      go_wp2_with fail
      refine (C2.out _).mono ?_
      rintro e w1 ⟨rfl, rfl⟩
      go_wp2_with fail
      go_ret
      exact ⟨rfl, B1.out⟩
  · have k0 : (w.alloc (sgO s)).cell? ⟨w.heap.size, 0, none⟩ = some (.int .i64 5) := by have := HN.cell (j := 0) (v := .int .i64 s.kind) rfl; rw [h] at this; exact this
    have HR : rngB s = (true) := by unfold rngB; rw [if_neg (by omega), if_neg (by omega), if_neg (by omega), if_neg (by omega), if_neg (by omega), if_neg (by omega), if_neg (by omega)]
    rw [HR]
    clear HN HR h T T1
    go_enter Tryz.func63, Tryz.ntmps63
    go_wp2_with (first | (refine wl_box s (by kernel_rfl) ?_) | fail)
    go_ret
    exact ⟨rfl, B1.out⟩
  · have k0 : (w.alloc (sgO s)).cell? ⟨w.heap.size, 0, none⟩ = some (.int .i64 6) := by have := HN.cell (j := 0) (v := .int .i64 s.kind) rfl; rw [h] at this; exact this
    have k13 := HN.cell (j := 13) (v := .int .i64 s.n) rfl
    have k14 := HN.cell (j := 14) (v := .int .i64 s.d) rfl
    have HR : rngB s = (inB s.n 1 100 && inB s.d 1 100) := by unfold rngB; rw [if_neg (by omega), if_neg (by omega), if_neg (by omega), if_pos h]
    have C1 := Lib.hid (fun W => pfrom_any s.n 1 100 W)
    have C2 := Lib.hid (fun W => pfrom_any s.d 1 100 W)
    rw [HR]
    clear HN HR h T T1
    generalize inB s.n 1 100 = b1 at *
    generalize inB s.d 1 100 = b2 at *
    cases b1 with
    | false =>
      go_enter Tryz.func63, Tryz.ntmps63
      go_wp2_with (first | (refine wl_box s (by kernel_rfl) ?_) | fail)
      refine (C1.out _).mono ?_
      rintro e w1 ⟨rfl, rfl⟩
      go_wp2_with fail
      go_ret
      exact ⟨rfl, B1.out⟩
    | true =>
      go_enter Tryz.func63, Tryz.ntmps63
      go_wp2_with (first | (refine wl_box s (by kernel_rfl) ?_) | fail)
      refine (C1.out _).mono ?_
      rintro e w1 ⟨rfl, rfl⟩
      go_wp2_with fail
      refine (C2.out _).mono ?_
      rintro e w1 ⟨rfl, rfl⟩
      go_wp2_with fail
      go_ret
      exact ⟨rfl, B1.out⟩
  · have k0 : (w.alloc (sgO s)).cell? ⟨w.heap.size, 0, none⟩ = some (.int .i64 7) := by have := HN.cell (j := 0) (v := .int .i64 s.kind) rfl; rw [h] at this; exact this
    have k15 := HN.cell (j := 15) (v := .int .i64 s.c0) rfl
    have k16 := HN.cell (j := 16) (v := .int .i64 s.c1) rfl
    have HR : rngB s = ((chkC (s.c0, s.c1) == 0)) := by unfold rngB; rw [if_neg (by omega), if_neg (by omega), if_neg (by omega), if_neg (by omega), if_pos h]
    have C := Lib.hid (cchk_any (s.c0, s.c1) _ T1.out)
    rw [HR]
    clear HN HR h T T1
    generalize chkC (s.c0, s.c1) = E at *
    go_enter Tryz.func63, Tryz.ntmps63
    go_wp2_with (first | (refine wl_box s (by kernel_rfl) ?_) | fail)
    refine C.out.mono ?_
    rintro e w1 ⟨rfl, hb⟩
    replace B1 := Lib.hid (w_below B1.out hb)
    clear hb C k0 k15 k16 HL
    go_wp2_with fail
    go_ret
    exact ⟨rfl, B1.out⟩
  · have k0 : (w.alloc (sgO s)).cell? ⟨w.heap.size, 0, none⟩ = some (.int .i64 8) := by have := HN.cell (j := 0) (v := .int .i64 s.kind) rfl; rw [h] at this; exact this
    have k13 := HN.cell (j := 13) (v := .int .i64 s.n) rfl
    have HR : rngB s = (inB s.n 0 2) := by unfold rngB; rw [if_neg (by omega), if_neg (by omega), if_neg (by omega), if_neg (by omega), if_neg (by omega), if_pos h]
    have C := Lib.hid (fun W => pfrom_any s.n 0 2 W)
    rw [HR]
    clear HN HR h T T1
    generalize inB s.n 0 2 = b at *
    go_enter Tryz.func63, Tryz.ntmps63
    go_wp2_with (first | (refine wl_box s (by kernel_rfl) ?_) | fail)
    refine (C.out _).mono ?_
    rintro e w1 ⟨rfl, rfl⟩
    go_wp2_with fail
    go_ret
    exact ⟨rfl, B1.out⟩
  · have k0 : (w.alloc (sgO s)).cell? ⟨w.heap.size, 0, none⟩ = some (.int .i64 9) := by have := HN.cell (j := 0) (v := .int .i64 s.kind) rfl; rw [h] at this; exact this
    have HR : rngB s = (true) := by unfold rngB; rw [if_neg (by omega), if_neg (by omega), if_neg (by omega), if_neg (by omega), if_neg (by omega), if_neg (by omega), if_neg (by omega)]
    rw [HR]
    clear HN HR h T T1
    go_enter Tryz.func63, Tryz.ntmps63
    go_wp2_with (first | (refine wl_box s (by kernel_rfl) ?_) | fail)
    go_ret
    exact ⟨rfl, B1.out⟩
  · have k0 : (w.alloc (sgO s)).cell? ⟨w.heap.size, 0, none⟩ = some (.int .i64 10) := by have := HN.cell (j := 0) (v := .int .i64 s.kind) rfl; rw [h] at this; exact this
    have k13 := HN.cell (j := 13) (v := .int .i64 s.n) rfl
    have HR : rngB s = (inB s.n 2 4) := by unfold rngB; rw [if_neg (by omega), if_neg (by omega), if_neg (by omega), if_neg (by omega), if_neg (by omega), if_neg (by omega), if_pos h]
    have C := Lib.hid (fun W => pfrom_any s.n 2 4 W)
    rw [HR]
    clear HN HR h T T1
    generalize inB s.n 2 4 = b at *
    go_enter Tryz.func63, Tryz.ntmps63
    go_wp2_with (first | (refine wl_box s (by kernel_rfl) ?_) | fail)
    refine (C.out _).mono ?_
    rintro e w1 ⟨rfl, rfl⟩
    go_wp2_with fail
    go_ret
    exact ⟨rfl, B1.out⟩
  · have k0 : (w.alloc (sgO s)).cell? ⟨w.heap.size, 0, none⟩ = some (.int .i64 11) := by have := HN.cell (j := 0) (v := .int .i64 s.kind) rfl; rw [h] at this; exact this
    have HR : rngB s = (true) := by unfold rngB; rw [if_neg (by omega), if_neg (by omega), if_neg (by omega), if_neg (by omega), if_neg (by omega), if_neg (by omega), if_neg (by omega)]
    rw [HR]
    clear HN HR h T T1
    go_enter Tryz.func63, Tryz.ntmps63
    go_wp2_with (first | (refine wl_box s (by kernel_rfl) ?_) | fail)
    go_ret
    exact ⟨rfl, B1.out⟩
  · have k0 : (w.alloc (sgO s)).cell? ⟨w.heap.size, 0, none⟩ = some (.int .i64 12) := by have := HN.cell (j := 0) (v := .int .i64 s.kind) rfl; rw [h] at this; exact this
    have HR : rngB s = (true) := by unfold rngB; rw [if_neg (by omega), if_neg (by omega), if_neg (by omega), if_neg (by omega), if_neg (by omega), if_neg (by omega), if_neg (by omega)]
    rw [HR]
    clear HN HR h T T1
    go_enter Tryz.func63, Tryz.ntmps63
    go_wp2_with (first | (refine wl_box s (by kernel_rfl) ?_) | fail)
    go_ret
    exact ⟨rfl, B1.out⟩
end Go.Proofs.YtdmedealdhadcaaGreatDoor

namespace Go.Proofs.YtdmedealdhadcaaGreatDoor
open Go.RowKit
attribute [local go_sem] sgA_g0 sgA_g1 sgA_g2 sgA_g3 sgA_g4 sgA_g5 sgA_g6 sgA_g7 sgA_g8 sgA_g9 sgA_g10 sgA_g11 sgA_g12 sgA_g13 sgA_g14 sgA_g15 sgA_g16
theorem one_no {s : Sg} (h : ¬ kOk s.kind) : oneE s = 8 := by unfold oneE; rw [if_pos h]
theorem one_form {s : Sg} (h : kOk s.kind) (e : sgE s (useS s) = false) : oneE s = 3 := by unfold oneE; rw [if_neg (fun x => x h), if_pos e]
theorem one_mens {s : Sg} (h : kOk s.kind) (e : sgE s (useS s) = true) (k : s.kind = 5) (m : ¬ okM (mq s)) : oneE s = 12 := by unfold oneE; rw [if_neg (fun x => x h), if_neg (by rw [e]; decide), if_pos ⟨k, m⟩]
theorem one_rest {s : Sg} (h : kOk s.kind) (e : sgE s (useS s) = true) (k : s.kind = 5 → okM (mq s)) : oneE s = if rngB s = false then 2 else if (s.obl && s.last) = true then 3 else 0 := by
  unfold oneE; rw [if_neg (fun x => x h), if_neg (by rw [e]; decide), if_neg (fun x => x.2 (k x.1))]
set_option maxRecDepth 100000 in
theorem pone_no (s : Sg) (h : ¬ kOk s.kind) (w : World) : Calls Tryz.prog 34 #[sgv s] w fun e w' => e = .returned (.int .i64 (oneE s)) ∧ Below w.heap.size w w' := by
  have k0 := (sg_new w s).cell (j := 0) (v := .int .i64 s.kind) rfl
  have B1 := Lib.hid (w_alloc (w_refl w) (sgO s))
  have C := Lib.hid (fun W => pcls_any s.kind W)
  rw [kcls_no h] at C
  rw [one_no h]
  clear h
  go_enter Tryz.func34, Tryz.ntmps34
  go_wp2_with (first | (refine wl_box s (by kernel_rfl) ?_) | fail)
  refine (C.out _).mono ?_
  rintro e w1 ⟨rfl, rfl⟩
  go_wp2_with fail
  go_ret
  exact ⟨rfl, B1.out⟩
set_option maxRecDepth 100000 in
set_option maxHeartbeats 8000000 in
theorem pone_any (s : Sg) (w : World) (T : TabS w) : Calls Tryz.prog 34 #[sgv s] w fun e w' => e = .returned (.int .i64 (oneE s)) ∧ Below w.heap.size w w' := by
  by_cases h : kOk s.kind
  case neg => exact pone_no s h w
  have k0 := (sg_new w s).cell (j := 0) (v := .int .i64 s.kind) rfl
  have HS := Lib.hid ((sg_new w s).al (fdO (fdK s.kind.toNat)))
  have HF := Lib.hid (fd_new (w.alloc (sgO s)) (fdK s.kind.toNat))
  rw [World.size_alloc] at HF
  have B2 := Lib.hid (w_alloc (w_alloc (w_refl w) (sgO s)) (fdO (fdK s.kind.toNat)))
  have C := Lib.hid (fun W => pcls_any s.kind W)
  rw [kcls_ok h] at C
  have T1 := Lib.hid (T.al (sgO s))
  have T2 := Lib.hid (T1.out.al (fdO (fdK s.kind.toNat)))
  have hk1 : 0 ≤ s.kind := by unfold kOk at h; omega
  have hk2 : s.kind < 13 := by unfold kOk at h; omega
  have HR := Lib.hid (T1.out.u s.kind.toNat (by omega))
  have RG := Lib.hid (fun W (T : TabS W) => prng_any s h W T)
  have RS := Lib.hid (one_rest h)
  have RM := Lib.hid (one_mens h)
  have RF := Lib.hid (one_form h)
  have FM := Lib.hid (show (fdK s.kind.toNat).fm = decide (s.kind = 5) by rw [fdK_mens]; by_cases e : s.kind = 5 <;> simp [e] ; omega)
  have hneq := fun W => sg_neq s (useS s) W
  have hgrd := fun x y W => sg_guard BinOp.neq x y s (useS s) W
  have KO0 := Lib.hid (fun W => pof_any (fdK s.kind.toNat) s W)
  rw [show keepS (fdK s.kind.toNat) s = useS s from rfl] at KO0
  generalize (clsV s.kind).1 = cls at *
  generalize (fdK s.kind.toNat) = F at *
  generalize useS s = U at *
  generalize oneE s = E at *
  clear h T
  go_enter Tryz.func34, Tryz.ntmps34
  go_wp2_with (first | (refine wl_box s (by kernel_rfl) ?_) | fail)
  refine (C.out _).mono ?_
  rintro e w1 ⟨rfl, rfl⟩
  clear C
  go_wp2_with (first | (refine wl_loadF 0 (s.kind.toNat * 12) F (by kernel_rfl) HR.out ?_) | (refine wl_storeF0 (w.heap.size + 1) _ F (by simp) (by kernel_rfl) (by kernel_rfl) rfl ?_) | fail)
  have f7 := HF.out.cell (j := 7) (v := .bool F.fm) rfl
  clear k0 HR T1
  generalize (w.alloc (sgO s)).alloc (fdO F) = y at *
  go_cut [23] (fun s23 wx => s23 = .bool (!(sgE s U)) ∧ Hid (Below y.heap.size y wx))
  case first =>
    have KO := Lib.hid (show ∀ n : Grown y, Calls Tryz.prog 61 #[fdv F, sgv s] n.W fun e w' => e = .returned (sgv U) ∧ Grew y w' from fun n => (KO0.out n.W).mono fun e w' ⟨h1, h2⟩ => ⟨h1, n.on h2, rfl⟩)
    clear RG RS RM RF FM T2 KO0 f7 B2
    refine wp_region_grown (by kernel_rfl) (by kernel_rfl) ?_
    refine quiet_load (v := sgv s) (sg_yields (.tmp 1) w.heap.size 0 s (by kernel_rfl) rfl (by kernel_rfl) (fun _ ⟨n, e⟩ => e ▸ (HS.out.later n.b).sg)) (by simp only [Act.put, List.setIfInBounds_toArray, List.set_cons_succ, List.set_cons_zero]; rfl) ?_
    refine quiet_load (v := fdv F) (fd_yields (.tmp 5) (w.heap.size + 1) 0 F (by kernel_rfl) rfl (by kernel_rfl) (fun _ ⟨n, e⟩ => e ▸ holds_range (HF.out.later n.b))) (by simp only [Act.put, List.setIfInBounds_toArray, List.set_cons_succ, List.set_cons_zero]; rfl) ?_
    refine quiet_load (v := sgv s) (sg_yields (.tmp 1) w.heap.size 0 s (by kernel_rfl) rfl (by kernel_rfl) (fun _ ⟨n, e⟩ => e ▸ (HS.out.later n.b).sg)) (by simp only [Act.put, List.setIfInBounds_toArray, List.set_cons_succ, List.set_cons_zero]; rfl) ?_
    repeat (go_big_quiet_step (exact KO.out _))
    refine wpQuiet_nil ?_
    intro n
    go_wp2_with fail
    go_meet
    exact ⟨rfl, Lib.hid n.b⟩
  case rest =>
    obtain ⟨rfl, hb⟩ := hcut
    clear KO0 hneq hgrd
    replace B2 := Lib.hid (w_below B2.out hb.out)
    replace T2 := Lib.hid (T2.out.later hb.out)
    replace HS := Lib.hid (HS.out.later hb.out)
    replace f7 := cell_later hb.out f7
    clear HF hb
    have HL := Lib.hid HS.out.sg
    have k6 := HS.out.cell (j := 6) (v := .bool s.obl) rfl
    have k7 := HS.out.cell (j := 7) (v := .bool s.last) rfl
    have k8 := HS.out.cell (j := 8) (v := .int .i64 s.m0) rfl
    have k9 := HS.out.cell (j := 9) (v := .int .i64 s.m1) rfl
    have k10 := HS.out.cell (j := 10) (v := .int .i64 s.m2) rfl
    have k11 := HS.out.cell (j := 11) (v := .int .i64 s.m3) rfl
    rename World => wr
    cases hx : sgE s U with
    | false =>
      have hE := Lib.hid (RF.out hx)
      clear RF RM RS RG
      go_wp2_with fail
      go_ret
      exact ⟨by rw [hE.out]; first | done | rfl, B2.out⟩
    | true =>
      have MC := Lib.hid (fun W => mcheck_any (mq s) W)
      by_cases hk5 : s.kind = 5
      · rw [FM.out, decide_eq_true hk5] at f7
        by_cases hm : okM (mq s)
        · have hE := RS.out hx (fun _ => hm)
          rw [chkM_ok hm] at MC
          clear RF RM RS FM hm hk5
          generalize rngB s = R at *
          cases R with
          | false =>
            go_wp2_with fail
            refine (MC.out _).mono ?_
            rintro e w1 ⟨rfl, hb⟩
            replace B2 := Lib.hid (w_below B2.out hb)
            replace T2 := Lib.hid (T2.out.later hb)
            replace HL := Lib.hid (HL.out.later hb)
            replace k6 := cell_later hb k6
            replace k7 := cell_later hb k7
            clear hb MC k8 k9 k10 k11 f7
            go_wp2_with (first | (refine wl_load w.heap.size 0 s (by kernel_rfl) HL.out ?_) | fail)
            refine (RG.out _ T2.out).mono ?_
            rintro e w2 ⟨rfl, hb⟩
            replace B2 := Lib.hid (w_below B2.out hb)
            replace k6 := cell_later hb k6
            replace k7 := cell_later hb k7
            clear hb RG HL T2
            go_wp2_with fail
            go_ret
            exact ⟨by rw [hE]; first | done | rfl, B2.out⟩
          | true =>
            cases ho : s.obl with
            | false =>
              rw [ho] at k6 hE
              go_wp2_with fail
              refine (MC.out _).mono ?_
              rintro e w1 ⟨rfl, hb⟩
              replace B2 := Lib.hid (w_below B2.out hb)
              replace T2 := Lib.hid (T2.out.later hb)
              replace HL := Lib.hid (HL.out.later hb)
              replace k6 := cell_later hb k6
              replace k7 := cell_later hb k7
              clear hb MC k8 k9 k10 k11 f7
              go_wp2_with (first | (refine wl_load w.heap.size 0 s (by kernel_rfl) HL.out ?_) | fail)
              refine (RG.out _ T2.out).mono ?_
              rintro e w2 ⟨rfl, hb⟩
              replace B2 := Lib.hid (w_below B2.out hb)
              replace k6 := cell_later hb k6
              replace k7 := cell_later hb k7
              clear hb RG HL T2
              go_wp2_with fail
              go_ret
              exact ⟨by rw [hE]; first | done | rfl, B2.out⟩
            | true =>
              rw [ho] at k6 hE
              cases hl : s.last with
              | false =>
                rw [hl] at k7 hE
                go_wp2_with fail
                refine (MC.out _).mono ?_
                rintro e w1 ⟨rfl, hb⟩
                replace B2 := Lib.hid (w_below B2.out hb)
                replace T2 := Lib.hid (T2.out.later hb)
                replace HL := Lib.hid (HL.out.later hb)
                replace k6 := cell_later hb k6
                replace k7 := cell_later hb k7
                clear hb MC k8 k9 k10 k11 f7
                go_wp2_with (first | (refine wl_load w.heap.size 0 s (by kernel_rfl) HL.out ?_) | fail)
                refine (RG.out _ T2.out).mono ?_
                rintro e w2 ⟨rfl, hb⟩
                replace B2 := Lib.hid (w_below B2.out hb)
                replace k6 := cell_later hb k6
                replace k7 := cell_later hb k7
                clear hb RG HL T2
                go_wp2_with fail
                go_ret
                exact ⟨by rw [hE]; first | done | rfl, B2.out⟩
              | true =>
                rw [hl] at k7 hE
                go_wp2_with fail
                refine (MC.out _).mono ?_
                rintro e w1 ⟨rfl, hb⟩
                replace B2 := Lib.hid (w_below B2.out hb)
                replace T2 := Lib.hid (T2.out.later hb)
                replace HL := Lib.hid (HL.out.later hb)
                replace k6 := cell_later hb k6
                replace k7 := cell_later hb k7
                clear hb MC k8 k9 k10 k11 f7
                go_wp2_with (first | (refine wl_load w.heap.size 0 s (by kernel_rfl) HL.out ?_) | fail)
                refine (RG.out _ T2.out).mono ?_
                rintro e w2 ⟨rfl, hb⟩
                replace B2 := Lib.hid (w_below B2.out hb)
                replace k6 := cell_later hb k6
                replace k7 := cell_later hb k7
                clear hb RG HL T2
                go_wp2_with fail
                go_ret
                exact ⟨by rw [hE]; first | done | rfl, B2.out⟩
        · have hE := Lib.hid (RM.out hx hk5 hm)
          rw [chkM_no hm] at MC
          clear RF RM RS RG FM hm hk5
          go_wp2_with fail
          refine (MC.out _).mono ?_
          rintro e w1 ⟨rfl, hb⟩
          replace B2 := Lib.hid (w_below B2.out hb)
          clear hb MC
          go_wp2_with fail
          go_ret
          exact ⟨by rw [hE.out]; first | done | rfl, B2.out⟩
      · rw [FM.out, decide_eq_false hk5] at f7
        have hE := RS.out hx (fun e => absurd e hk5)
        clear RF RM RS FM hk5 MC
        generalize rngB s = R at *
        cases R with
        | false =>
          go_wp2_with (first | (refine wl_load w.heap.size 0 s (by kernel_rfl) HL.out ?_) | fail)
          refine (RG.out _ T2.out).mono ?_
          rintro e w2 ⟨rfl, hb⟩
          replace B2 := Lib.hid (w_below B2.out hb)
          replace k6 := cell_later hb k6
          replace k7 := cell_later hb k7
          clear hb RG HL T2
          go_wp2_with fail
          go_ret
          exact ⟨by rw [hE]; first | done | rfl, B2.out⟩
        | true =>
          cases ho : s.obl with
          | false =>
            rw [ho] at k6 hE
            go_wp2_with (first | (refine wl_load w.heap.size 0 s (by kernel_rfl) HL.out ?_) | fail)
            refine (RG.out _ T2.out).mono ?_
            rintro e w2 ⟨rfl, hb⟩
            replace B2 := Lib.hid (w_below B2.out hb)
            replace k6 := cell_later hb k6
            replace k7 := cell_later hb k7
            clear hb RG HL T2
            go_wp2_with fail
            go_ret
            exact ⟨by rw [hE]; first | done | rfl, B2.out⟩
          | true =>
            rw [ho] at k6 hE
            cases hl : s.last with
            | false =>
              rw [hl] at k7 hE
              go_wp2_with (first | (refine wl_load w.heap.size 0 s (by kernel_rfl) HL.out ?_) | fail)
              refine (RG.out _ T2.out).mono ?_
              rintro e w2 ⟨rfl, hb⟩
              replace B2 := Lib.hid (w_below B2.out hb)
              replace k6 := cell_later hb k6
              replace k7 := cell_later hb k7
              clear hb RG HL T2
              go_wp2_with fail
              go_ret
              exact ⟨by rw [hE]; first | done | rfl, B2.out⟩
            | true =>
              rw [hl] at k7 hE
              go_wp2_with (first | (refine wl_load w.heap.size 0 s (by kernel_rfl) HL.out ?_) | fail)
              refine (RG.out _ T2.out).mono ?_
              rintro e w2 ⟨rfl, hb⟩
              replace B2 := Lib.hid (w_below B2.out hb)
              replace k6 := cell_later hb k6
              replace k7 := cell_later hb k7
              clear hb RG HL T2
              go_wp2_with fail
              go_ret
              exact ⟨by rw [hE]; first | done | rfl, B2.out⟩
end Go.Proofs.YtdmedealdhadcaaGreatDoor
