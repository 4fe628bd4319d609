/- What the methods of a writer write: places, accidentals, stems, clefs. What the methods of a writer write: notes, tied signs, clefs, mensurations, texts that stand alone. The program's small tests of a sign, and what is kept of it. The program's and the reference's classes of kinds, and ranges of fields. -/
import Derived.Test.YtdmedealdhadcaaGreatDoorG11
import Derived.Test.YtdmedealdhadcaaGreatDoorG03
import Derived.WalkSmall

namespace Go.Proofs.YtdmedealdhadcaaGreatDoor
open Go.RowKit
def okP (s : Sg) : Prop := (-4 ≤ s.place ∧ s.place ≤ 12) ∧ (-1 ≤ s.acc ∧ s.acc ≤ 2)
set_option maxRecDepth 100000 in
set_option maxHeartbeats 8000000 in
theorem wplaced_any : Wm 500 118 headL okP := by
  intro B b l s W hl hok h
  obtain ⟨⟨p1, p2⟩, q1, q2⟩ := hok
  have ln := (plc_plain p1 p2).2.2
  have P0 := Lib.hid (wnum_any s.place p1 (by omega) B b l s W (by omega) h (by omega))
  have cpl := h.cell (j := 4) (u := .int .i64 s.place) (fun _ _ => rfl)
  have L0 := Lib.hid (show (l ++ Lib.itoa s.place).length ≤ 510 by rw [List.length_append]; omega)
  have MK := Lib.hid (fun V => maccidentals_any V)
  have E0 := Lib.hid (show l ++ headL s = l ++ Lib.itoa s.place ++ accL s.acc ++ mkL s.col 42 by simp [headL])
  clear h hl ln p1 p2
  unfold marksV at MK
  generalize l ++ headL s = lz at *
  have B0 := Lib.hid (Below.refl B W)
  go_enter Tryz.func118, Tryz.ntmps118
  go_wp2_with fail
  refine P0.out.mono ?_
  rintro e w1 ⟨rfl, hx, hy⟩
  generalize l ++ Lib.itoa s.place = l1 at *
  replace B0 := Lib.hid (B0.out.trans (hy.trans ((w_refl w1).drew.mono hx.it.sz)))
  have H0 := Lib.hid (hx.later (w_refl w1).drew)
  clear hx hy P0 cpl
  go_wp2_with fail
  go_cut [20] (fun s20 wx => Hid (WrT B b (l1 ++ accL s.acc) s wx) ∧ Hid (Below B W wx))
  case first =>
    clear E0
    have c : s.acc = -1 ∨ s.acc = 0 ∨ s.acc = 1 ∨ s.acc = 2 := by omega
    rcases c with c | c | c | c
    · have hcell := H0.out.cell (j := 5) (u := .int .i64 (-1)) (fun _ _ => congrArg (fun v => some (Value.int .i64 v)) c)
      have hwr : IntKind.i64.wrap 0 = 0 := by decide
      have hix := fun V => ix_m0 ⟨#[98]⟩ ⟨#[]⟩ ⟨#[35]⟩ ⟨#[110]⟩ ⟨#[]⟩ V
      have P := Lib.hid (fun V (hV : WrT B b l1 s V) => wtl_any ([98]) (show _ ≤ 1000 by decide) B b l1 s V (Nat.le_trans L0.out (by decide)) hV)
      go_region_held3 (fun V => V.cell? ⟨b, 5, none⟩ = some (.int .i64 (-1)))
        (first | exact hcell | assumption)
        (first
          | (go_at_call 164; refine (MK.out _).mono ?_; rintro e wn ⟨rfl, hb⟩; replace B0 := Lib.hid (B0.out.trans (hb.mono H0.out.it.sz)); replace H0 := Lib.hid (H0.out.later hb); replace hcell := H0.out.cell (j := 5) (u := .int .i64 (-1)) (fun _ _ => congrArg (fun v => some (Value.int .i64 v)) c); clear hb)
          | (go_at_call 95; refine (P.out _ H0.out).mono ?_; rintro e wm ⟨rfl, hx, hb⟩; have HX := Lib.hid hx; have HY := Lib.hid hb; replace hcell := hx.cell (j := 5) (u := .int .i64 (-1)) (fun _ _ => congrArg (fun v => some (Value.int .i64 v)) c); clear hx hb)
          | fail)
      all_goals
        go_wp2_with fail
        go_meet
        exact ⟨Lib.hid (by rw [c]; exact HX.out), Lib.hid (B0.out.trans HY.out)⟩
    · have hcell := H0.out.cell (j := 5) (u := .int .i64 (0)) (fun _ _ => congrArg (fun v => some (Value.int .i64 v)) c)
      have hwr : IntKind.i64.wrap 1 = 1 := by decide
      have hix := fun V => ix_m1 ⟨#[98]⟩ ⟨#[]⟩ ⟨#[35]⟩ ⟨#[110]⟩ ⟨#[]⟩ V
      have P := Lib.hid (fun V (hV : WrT B b l1 s V) => wtl_any ([]) (show _ ≤ 1000 by decide) B b l1 s V (Nat.le_trans L0.out (by decide)) hV)
      go_region_held3 (fun V => V.cell? ⟨b, 5, none⟩ = some (.int .i64 (0)))
        (first | exact hcell | assumption)
        (first
          | (go_at_call 164; refine (MK.out _).mono ?_; rintro e wn ⟨rfl, hb⟩; replace B0 := Lib.hid (B0.out.trans (hb.mono H0.out.it.sz)); replace H0 := Lib.hid (H0.out.later hb); replace hcell := H0.out.cell (j := 5) (u := .int .i64 (0)) (fun _ _ => congrArg (fun v => some (Value.int .i64 v)) c); clear hb)
          | (go_at_call 95; refine (P.out _ H0.out).mono ?_; rintro e wm ⟨rfl, hx, hb⟩; have HX := Lib.hid hx; have HY := Lib.hid hb; replace hcell := hx.cell (j := 5) (u := .int .i64 (0)) (fun _ _ => congrArg (fun v => some (Value.int .i64 v)) c); clear hx hb)
          | fail)
      all_goals
        go_wp2_with fail
        go_meet
        exact ⟨Lib.hid (by rw [c]; exact HX.out), Lib.hid (B0.out.trans HY.out)⟩
    · have hcell := H0.out.cell (j := 5) (u := .int .i64 (1)) (fun _ _ => congrArg (fun v => some (Value.int .i64 v)) c)
      have hwr : IntKind.i64.wrap 2 = 2 := by decide
      have hix := fun V => ix_m2 ⟨#[98]⟩ ⟨#[]⟩ ⟨#[35]⟩ ⟨#[110]⟩ ⟨#[]⟩ V
      have P := Lib.hid (fun V (hV : WrT B b l1 s V) => wtl_any ([35]) (show _ ≤ 1000 by decide) B b l1 s V (Nat.le_trans L0.out (by decide)) hV)
      go_region_held3 (fun V => V.cell? ⟨b, 5, none⟩ = some (.int .i64 (1)))
        (first | exact hcell | assumption)
        (first
          | (go_at_call 164; refine (MK.out _).mono ?_; rintro e wn ⟨rfl, hb⟩; replace B0 := Lib.hid (B0.out.trans (hb.mono H0.out.it.sz)); replace H0 := Lib.hid (H0.out.later hb); replace hcell := H0.out.cell (j := 5) (u := .int .i64 (1)) (fun _ _ => congrArg (fun v => some (Value.int .i64 v)) c); clear hb)
          | (go_at_call 95; refine (P.out _ H0.out).mono ?_; rintro e wm ⟨rfl, hx, hb⟩; have HX := Lib.hid hx; have HY := Lib.hid hb; replace hcell := hx.cell (j := 5) (u := .int .i64 (1)) (fun _ _ => congrArg (fun v => some (Value.int .i64 v)) c); clear hx hb)
          | fail)
      all_goals
        go_wp2_with fail
        go_meet
        exact ⟨Lib.hid (by rw [c]; exact HX.out), Lib.hid (B0.out.trans HY.out)⟩
    · have hcell := H0.out.cell (j := 5) (u := .int .i64 (2)) (fun _ _ => congrArg (fun v => some (Value.int .i64 v)) c)
      have hwr : IntKind.i64.wrap 3 = 3 := by decide
      have hix := fun V => ix_m3 ⟨#[98]⟩ ⟨#[]⟩ ⟨#[35]⟩ ⟨#[110]⟩ ⟨#[]⟩ V
      have P := Lib.hid (fun V (hV : WrT B b l1 s V) => wtl_any ([110]) (show _ ≤ 1000 by decide) B b l1 s V (Nat.le_trans L0.out (by decide)) hV)
      go_region_held3 (fun V => V.cell? ⟨b, 5, none⟩ = some (.int .i64 (2)))
        (first | exact hcell | assumption)
        (first
          | (go_at_call 164; refine (MK.out _).mono ?_; rintro e wn ⟨rfl, hb⟩; replace B0 := Lib.hid (B0.out.trans (hb.mono H0.out.it.sz)); replace H0 := Lib.hid (H0.out.later hb); replace hcell := H0.out.cell (j := 5) (u := .int .i64 (2)) (fun _ _ => congrArg (fun v => some (Value.int .i64 v)) c); clear hb)
          | (go_at_call 95; refine (P.out _ H0.out).mono ?_; rintro e wm ⟨rfl, hx, hb⟩; have HX := Lib.hid hx; have HY := Lib.hid hb; replace hcell := hx.cell (j := 5) (u := .int .i64 (2)) (fun _ _ => congrArg (fun v => some (Value.int .i64 v)) c); clear hx hb)
          | fail)
      all_goals
        go_wp2_with fail
        go_meet
        exact ⟨Lib.hid (by rw [c]; exact HX.out), Lib.hid (B0.out.trans HY.out)⟩
  case rest =>
    obtain ⟨H1, B1⟩ := hcut
    clear MK H0 B0
    have hle : (accL s.acc).length ≤ 1 := (acc_plain s.acc).2
    have L1 := Lib.hid (show (l1 ++ accL s.acc).length ≤ 520 by rw [List.length_append]; have := L0.out; omega)
    generalize l1 ++ accL s.acc = l2 at *
    have ccol := H1.out.cell (j := 6) (u := .bool s.col) (fun _ _ => rfl)
    have P := Lib.hid (wmark_any s.col 42 B b l2 s _ (Nat.le_trans L1.out (by decide)) H1.out)
    clear hle L0 q1 q2
    go_wp2_with fail
    refine P.out.mono ?_
    rintro e w3 ⟨rfl, hx, hy⟩
    have HX := Lib.hid hx
    have HY := Lib.hid hy
    clear hx hy P ccol
    go_wp2_with fail
    go_end0
    exact ⟨rfl, by rw [E0.out]; exact HX.out, B1.out.trans HY.out⟩
end Go.Proofs.YtdmedealdhadcaaGreatDoor

namespace Go.Proofs.YtdmedealdhadcaaGreatDoor
open Go.RowKit
theorem head_len {s : Sg} (h : okP s) : (headL s).length ≤ 10 := by
  have h1 := (plc_plain h.1.1 h.1.2).2.2
  have h2 := (acc_plain s.acc).2
  have h3 := (mk_plain s.col 42 (by decide)).2
  simp only [headL, List.length_append]; omega
def okNt (s : Sg) : Prop := okVl s ∧ okP s
def TNt (s : Sg) : List UInt8 := TV s ++ headL s
set_option maxRecDepth 100000 in
set_option maxHeartbeats 4000000 in
theorem wnote_any : Wm 100 64 TNt okNt := by
  intro B b l s W hl hok h
  have okv := hok.1
  have okp := hok.2
  have H0 := Lib.hid h
  have L0 := Lib.hid (show l.length ≤ 100 from hl)
  have E0 := Lib.hid (show l = l ++ [] from (List.append_nil l).symm)
  have B0 := Lib.hid (Below.refl B W)
  obtain ⟨l0, hl0⟩ : ∃ l0, l = l0 := ⟨_, rfl⟩
  have TE := Lib.hid (show TNt s = _ from rfl)
  have HL := Lib.hid hl0
  clear h hl
  rw [hl0] at H0 L0
  have E0 := Lib.hid (show l0 = l ++ [] by rw [List.append_nil]; exact hl0.symm)
  clear hl0
  go_enter Tryz.func64, Tryz.ntmps64
  have P := Lib.hid (wvalue_any B b l0 s _ (Nat.le_trans L0.out (by decide)) okv H0.out)
  go_wp2_with fail
  refine P.out.mono ?_
  rintro e w1 ⟨rfl, hx, hy⟩
  replace B0 := Lib.hid (B0.out.trans hy)
  replace E0 := Lib.hid (show l0 ++ TV s = l ++ ([] ++ TV s) by rw [E0.out]; simp)
  replace L0 := Lib.hid (show (l0 ++ TV s).length ≤ 110 by rw [List.length_append]; have := L0.out; have : (TV s).length ≤ 10 := Nat.le_trans (let_plain okv).2.2 (by decide); omega)
  replace H0 := Lib.hid hx
  clear hx hy P
  generalize l0 ++ TV s = l1 at *
  have P := Lib.hid (wplaced_any B b l1 s _ (Nat.le_trans L0.out (by decide)) okp H0.out)
  go_wp2_with fail
  refine P.out.mono ?_
  rintro e w2 ⟨rfl, hx, hy⟩
  replace B0 := Lib.hid (B0.out.trans hy)
  replace E0 := Lib.hid (show l1 ++ headL s = l ++ (([] ++ TV s) ++ headL s) by rw [E0.out]; simp)
  replace L0 := Lib.hid (show (l1 ++ headL s).length ≤ 120 by rw [List.length_append]; have := L0.out; have : (headL s).length ≤ 10 := head_len okp; omega)
  replace H0 := Lib.hid hx
  clear hx hy P
  generalize l1 ++ headL s = l2 at *
  go_wp2_with fail
  go_end0
  exact ⟨rfl, by have h := H0.out; rw [E0.out] at h; simpa [TNt] using h, B0.out⟩
def okT (s : Sg) : Prop := okP s ∧ (0 ≤ s.stem ∧ s.stem ≤ 3)
def TT (s : Sg) : List UInt8 := 116 :: (headL s ++ stemL s.stem ++ mkL s.obl 126 ++ mkL s.last 33)
set_option maxRecDepth 100000 in
set_option maxHeartbeats 8000000 in
theorem wtied_any : Wm 100 69 TT okT := by
  intro B b l s W hl hok h
  obtain ⟨okp, q1, q2⟩ := hok
  have hh := head_len okp
  have P0 := Lib.hid (wtl_any [116] (by decide) B b l s W (by omega) h)
  have L0 := Lib.hid (show (l ++ [116]).length ≤ 110 by rw [List.length_append]; show l.length + 1 ≤ 110; omega)
  have L1 := Lib.hid (show (l ++ [116] ++ headL s).length ≤ 120 by rw [List.length_append]; have := L0.out; omega)
  have PL := Lib.hid (fun V (hV : WrT B b (l ++ [116]) s V) => wplaced_any B b (l ++ [116]) s V (Nat.le_trans L0.out (by decide)) okp hV)
  have MK := Lib.hid (fun V => mstems_any V)
  have E0 := Lib.hid (show l ++ TT s = l ++ [116] ++ headL s ++ stemL s.stem ++ mkL s.obl 126 ++ mkL s.last 33 by simp [TT])
  clear h hl hh okp
  unfold marksV at MK
  generalize l ++ TT s = lz at *
  generalize l ++ [116] = l0 at *
  generalize l0 ++ headL s = l1 at *
  have B0 := Lib.hid (Below.refl B W)
  go_enter Tryz.func69, Tryz.ntmps69
  go_wp2_with fail
  refine P0.out.mono ?_
  rintro e w1 ⟨rfl, hx, hy⟩
  replace B0 := Lib.hid (B0.out.trans hy)
  have P1 := Lib.hid (PL.out w1 hx)
  clear hx hy P0 PL L0
  go_wp2_with fail
  refine P1.out.mono ?_
  rintro e w2 ⟨rfl, hx, hy⟩
  replace B0 := Lib.hid (B0.out.trans (hy.trans ((w_refl w2).drew.mono hx.it.sz)))
  have H0 := Lib.hid (hx.later (w_refl w2).drew)
  clear hx hy P1
  go_wp2_with fail
  go_cut [18] (fun s18 wx => Hid (WrT B b (l1 ++ stemL s.stem) s wx) ∧ Hid (Below B W wx))
  case first =>
    clear E0
    have c : s.stem = 0 ∨ s.stem = 1 ∨ s.stem = 2 ∨ s.stem = 3 := by omega
    rcases c with c | c | c | c
    · have hcell := H0.out.cell (j := 7) (u := .int .i64 (0)) (fun _ _ => congrArg (fun v => some (Value.int .i64 v)) c)
      have hix := fun V => ix_m0 ⟨#[]⟩ ⟨#[94]⟩ ⟨#[118]⟩ ⟨#[62]⟩ ⟨#[]⟩ V
      have P := Lib.hid (fun V (hV : WrT B b l1 s V) => wtl_any ([]) (show _ ≤ 1000 by decide) B b l1 s V (Nat.le_trans L1.out (by decide)) hV)
      go_region_held3 (fun V => V.cell? ⟨b, 7, none⟩ = some (.int .i64 (0)))
        (first | exact hcell | assumption)
        (first
          | (go_at_call 127; refine (MK.out _).mono ?_; rintro e wn ⟨rfl, hb⟩; replace B0 := Lib.hid (B0.out.trans (hb.mono H0.out.it.sz)); replace H0 := Lib.hid (H0.out.later hb); replace hcell := H0.out.cell (j := 7) (u := .int .i64 (0)) (fun _ _ => congrArg (fun v => some (Value.int .i64 v)) c); clear hb)
          | (go_at_call 95; refine (P.out _ H0.out).mono ?_; rintro e wm ⟨rfl, hx, hb⟩; have HX := Lib.hid hx; have HY := Lib.hid hb; replace hcell := hx.cell (j := 7) (u := .int .i64 (0)) (fun _ _ => congrArg (fun v => some (Value.int .i64 v)) c); clear hx hb)
          | fail)
      all_goals
        go_wp2_with fail
        go_meet
        exact ⟨Lib.hid (by rw [c]; exact HX.out), Lib.hid (B0.out.trans HY.out)⟩
    · have hcell := H0.out.cell (j := 7) (u := .int .i64 (1)) (fun _ _ => congrArg (fun v => some (Value.int .i64 v)) c)
      have hix := fun V => ix_m1 ⟨#[]⟩ ⟨#[94]⟩ ⟨#[118]⟩ ⟨#[62]⟩ ⟨#[]⟩ V
      have P := Lib.hid (fun V (hV : WrT B b l1 s V) => wtl_any ([94]) (show _ ≤ 1000 by decide) B b l1 s V (Nat.le_trans L1.out (by decide)) hV)
      go_region_held3 (fun V => V.cell? ⟨b, 7, none⟩ = some (.int .i64 (1)))
        (first | exact hcell | assumption)
        (first
          | (go_at_call 127; refine (MK.out _).mono ?_; rintro e wn ⟨rfl, hb⟩; replace B0 := Lib.hid (B0.out.trans (hb.mono H0.out.it.sz)); replace H0 := Lib.hid (H0.out.later hb); replace hcell := H0.out.cell (j := 7) (u := .int .i64 (1)) (fun _ _ => congrArg (fun v => some (Value.int .i64 v)) c); clear hb)
          | (go_at_call 95; refine (P.out _ H0.out).mono ?_; rintro e wm ⟨rfl, hx, hb⟩; have HX := Lib.hid hx; have HY := Lib.hid hb; replace hcell := hx.cell (j := 7) (u := .int .i64 (1)) (fun _ _ => congrArg (fun v => some (Value.int .i64 v)) c); clear hx hb)
          | fail)
      all_goals
        go_wp2_with fail
        go_meet
        exact ⟨Lib.hid (by rw [c]; exact HX.out), Lib.hid (B0.out.trans HY.out)⟩
    · have hcell := H0.out.cell (j := 7) (u := .int .i64 (2)) (fun _ _ => congrArg (fun v => some (Value.int .i64 v)) c)
      have hix := fun V => ix_m2 ⟨#[]⟩ ⟨#[94]⟩ ⟨#[118]⟩ ⟨#[62]⟩ ⟨#[]⟩ V
      have P := Lib.hid (fun V (hV : WrT B b l1 s V) => wtl_any ([118]) (show _ ≤ 1000 by decide) B b l1 s V (Nat.le_trans L1.out (by decide)) hV)
      go_region_held3 (fun V => V.cell? ⟨b, 7, none⟩ = some (.int .i64 (2)))
        (first | exact hcell | assumption)
        (first
          | (go_at_call 127; refine (MK.out _).mono ?_; rintro e wn ⟨rfl, hb⟩; replace B0 := Lib.hid (B0.out.trans (hb.mono H0.out.it.sz)); replace H0 := Lib.hid (H0.out.later hb); replace hcell := H0.out.cell (j := 7) (u := .int .i64 (2)) (fun _ _ => congrArg (fun v => some (Value.int .i64 v)) c); clear hb)
          | (go_at_call 95; refine (P.out _ H0.out).mono ?_; rintro e wm ⟨rfl, hx, hb⟩; have HX := Lib.hid hx; have HY := Lib.hid hb; replace hcell := hx.cell (j := 7) (u := .int .i64 (2)) (fun _ _ => congrArg (fun v => some (Value.int .i64 v)) c); clear hx hb)
          | fail)
      all_goals
        go_wp2_with fail
        go_meet
        exact ⟨Lib.hid (by rw [c]; exact HX.out), Lib.hid (B0.out.trans HY.out)⟩
    · have hcell := H0.out.cell (j := 7) (u := .int .i64 (3)) (fun _ _ => congrArg (fun v => some (Value.int .i64 v)) c)
      have hix := fun V => ix_m3 ⟨#[]⟩ ⟨#[94]⟩ ⟨#[118]⟩ ⟨#[62]⟩ ⟨#[]⟩ V
      have P := Lib.hid (fun V (hV : WrT B b l1 s V) => wtl_any ([62]) (show _ ≤ 1000 by decide) B b l1 s V (Nat.le_trans L1.out (by decide)) hV)
      go_region_held3 (fun V => V.cell? ⟨b, 7, none⟩ = some (.int .i64 (3)))
        (first | exact hcell | assumption)
        (first
          | (go_at_call 127; refine (MK.out _).mono ?_; rintro e wn ⟨rfl, hb⟩; replace B0 := Lib.hid (B0.out.trans (hb.mono H0.out.it.sz)); replace H0 := Lib.hid (H0.out.later hb); replace hcell := H0.out.cell (j := 7) (u := .int .i64 (3)) (fun _ _ => congrArg (fun v => some (Value.int .i64 v)) c); clear hb)
          | (go_at_call 95; refine (P.out _ H0.out).mono ?_; rintro e wm ⟨rfl, hx, hb⟩; have HX := Lib.hid hx; have HY := Lib.hid hb; replace hcell := hx.cell (j := 7) (u := .int .i64 (3)) (fun _ _ => congrArg (fun v => some (Value.int .i64 v)) c); clear hx hb)
          | fail)
      all_goals
        go_wp2_with fail
        go_meet
        exact ⟨Lib.hid (by rw [c]; exact HX.out), Lib.hid (B0.out.trans HY.out)⟩
  case rest =>
    obtain ⟨H1, B1⟩ := hcut
    clear MK H0 B0
    have hle : (stemL s.stem).length ≤ 1 := (stem_plain s.stem).2
    have L2 := Lib.hid (show (l1 ++ stemL s.stem).length ≤ 130 by rw [List.length_append]; have := L1.out; omega)
    have L3 := Lib.hid (show (l1 ++ stemL s.stem ++ mkL s.obl 126).length ≤ 140 by rw [List.length_append]; have := L2.out; have := (mk_plain s.obl 126 (by decide)).2; omega)
    generalize l1 ++ stemL s.stem = l2 at *
    have c8 := H1.out.cell (j := 8) (u := .bool s.obl) (fun _ _ => rfl)
    have P := Lib.hid (wmark_any s.obl 126 B b l2 s _ (Nat.le_trans L2.out (by decide)) H1.out)
    clear hle L1 q1 q2
    go_wp2_with fail
    refine P.out.mono ?_
    rintro e w3 ⟨rfl, hx, hy⟩
    replace B1 := Lib.hid (B1.out.trans hy)
    generalize l2 ++ mkL s.obl 126 = l3 at *
    have c9 := hx.cell (j := 9) (u := .bool s.last) (fun _ _ => rfl)
    have P2 := Lib.hid (wmark_any s.last 33 B b l3 s _ (Nat.le_trans L3.out (by decide)) hx)
    clear hx hy P c8 H1
    go_wp2_with fail
    refine P2.out.mono ?_
    rintro e w4 ⟨rfl, hx, hy⟩
    have HX := Lib.hid hx
    have HY := Lib.hid hy
    clear hx hy P2 c9
    go_wp2_with fail
    go_end0
    exact ⟨rfl, by rw [E0.out]; exact HX.out, B1.out.trans HY.out⟩
def okC7 (s : Sg) : Prop := (s.c0 = 0 ∨ s.c0 = 3 ∨ s.c0 = 4) ∧ (1 ≤ s.c1 ∧ s.c1 ≤ 5)
def TC7 (s : Sg) : List UInt8 := 64 :: (clfL s.c0 ++ Lib.itoa s.c1)
set_option maxRecDepth 100000 in
set_option maxHeartbeats 8000000 in
theorem wclef_any : Wm 100 75 TC7 okC7 := by
  intro B b l s W hl hok h
  obtain ⟨hc, q1, q2⟩ := hok
  have L1 := Lib.hid (show l.length ≤ 100 from hl)
  have MK := Lib.hid (fun V => mclefs_any V)
  have E0 := Lib.hid (show l ++ TC7 s = l ++ (64 :: clfL s.c0) ++ Lib.itoa s.c1 by simp [TC7])
  unfold marksV at MK
  generalize l ++ TC7 s = lz at *
  have B0 := Lib.hid ((w_refl W).drew.mono h.it.sz)
  have H0 := Lib.hid (h.later (w_refl W).drew)
  clear h hl
  go_enter Tryz.func75, Tryz.ntmps75
  go_wp2_with fail
  go_cut [14] (fun s14 wx => Hid (WrT B b (l ++ (64 :: clfL s.c0)) s wx) ∧ Hid (Below B W wx))
  case first =>
    clear E0
    rcases hc with c | c | c
    · have hcell := H0.out.cell (j := 17) (u := .int .i64 (0)) (fun _ _ => congrArg (fun v => some (Value.int .i64 v)) c)
      have hix := fun V => ix_m0 ⟨#[67]⟩ ⟨#[]⟩ ⟨#[]⟩ ⟨#[70]⟩ ⟨#[71]⟩ V
      have hcat : (⟨#[64]⟩ : ByteArray) ++ ⟨#[67]⟩ = bytes [64, 67] := rfl
      have P := Lib.hid (fun V (hV : WrT B b l s V) => wtl_any ([64, 67]) (show _ ≤ 1000 by decide) B b l s V (Nat.le_trans L1.out (by decide)) hV)
      go_region_held3 (fun V => V.cell? ⟨b, 17, none⟩ = some (.int .i64 (0)))
        (first | exact hcell | assumption)
        (first
          | (go_at_call 137; refine (MK.out _).mono ?_; rintro e wn ⟨rfl, hb⟩; replace B0 := Lib.hid (B0.out.trans (hb.mono H0.out.it.sz)); replace H0 := Lib.hid (H0.out.later hb); replace hcell := H0.out.cell (j := 17) (u := .int .i64 (0)) (fun _ _ => congrArg (fun v => some (Value.int .i64 v)) c); clear hb)
          | (go_at_call 95; refine (P.out _ H0.out).mono ?_; rintro e wm ⟨rfl, hx, hb⟩; have HX := Lib.hid hx; have HY := Lib.hid hb; replace hcell := hx.cell (j := 17) (u := .int .i64 (0)) (fun _ _ => congrArg (fun v => some (Value.int .i64 v)) c); clear hx hb)
          | fail)
      all_goals
        go_wp2_with fail
        go_meet
        exact ⟨Lib.hid (by rw [c]; exact HX.out), Lib.hid (B0.out.trans HY.out)⟩
    · have hcell := H0.out.cell (j := 17) (u := .int .i64 (3)) (fun _ _ => congrArg (fun v => some (Value.int .i64 v)) c)
      have hix := fun V => ix_m3 ⟨#[67]⟩ ⟨#[]⟩ ⟨#[]⟩ ⟨#[70]⟩ ⟨#[71]⟩ V
      have hcat : (⟨#[64]⟩ : ByteArray) ++ ⟨#[70]⟩ = bytes [64, 70] := rfl
      have P := Lib.hid (fun V (hV : WrT B b l s V) => wtl_any ([64, 70]) (show _ ≤ 1000 by decide) B b l s V (Nat.le_trans L1.out (by decide)) hV)
      go_region_held3 (fun V => V.cell? ⟨b, 17, none⟩ = some (.int .i64 (3)))
        (first | exact hcell | assumption)
        (first
          | (go_at_call 137; refine (MK.out _).mono ?_; rintro e wn ⟨rfl, hb⟩; replace B0 := Lib.hid (B0.out.trans (hb.mono H0.out.it.sz)); replace H0 := Lib.hid (H0.out.later hb); replace hcell := H0.out.cell (j := 17) (u := .int .i64 (3)) (fun _ _ => congrArg (fun v => some (Value.int .i64 v)) c); clear hb)
          | (go_at_call 95; refine (P.out _ H0.out).mono ?_; rintro e wm ⟨rfl, hx, hb⟩; have HX := Lib.hid hx; have HY := Lib.hid hb; replace hcell := hx.cell (j := 17) (u := .int .i64 (3)) (fun _ _ => congrArg (fun v => some (Value.int .i64 v)) c); clear hx hb)
          | fail)
      all_goals
        go_wp2_with fail
        go_meet
        exact ⟨Lib.hid (by rw [c]; exact HX.out), Lib.hid (B0.out.trans HY.out)⟩
    · have hcell := H0.out.cell (j := 17) (u := .int .i64 (4)) (fun _ _ => congrArg (fun v => some (Value.int .i64 v)) c)
      have hix := fun V => ix_m4 ⟨#[67]⟩ ⟨#[]⟩ ⟨#[]⟩ ⟨#[70]⟩ ⟨#[71]⟩ V
      have hcat : (⟨#[64]⟩ : ByteArray) ++ ⟨#[71]⟩ = bytes [64, 71] := rfl
      have P := Lib.hid (fun V (hV : WrT B b l s V) => wtl_any ([64, 71]) (show _ ≤ 1000 by decide) B b l s V (Nat.le_trans L1.out (by decide)) hV)
      go_region_held3 (fun V => V.cell? ⟨b, 17, none⟩ = some (.int .i64 (4)))
        (first | exact hcell | assumption)
        (first
          | (go_at_call 137; refine (MK.out _).mono ?_; rintro e wn ⟨rfl, hb⟩; replace B0 := Lib.hid (B0.out.trans (hb.mono H0.out.it.sz)); replace H0 := Lib.hid (H0.out.later hb); replace hcell := H0.out.cell (j := 17) (u := .int .i64 (4)) (fun _ _ => congrArg (fun v => some (Value.int .i64 v)) c); clear hb)
          | (go_at_call 95; refine (P.out _ H0.out).mono ?_; rintro e wm ⟨rfl, hx, hb⟩; have HX := Lib.hid hx; have HY := Lib.hid hb; replace hcell := hx.cell (j := 17) (u := .int .i64 (4)) (fun _ _ => congrArg (fun v => some (Value.int .i64 v)) c); clear hx hb)
          | fail)
      all_goals
        go_wp2_with fail
        go_meet
        exact ⟨Lib.hid (by rw [c]; exact HX.out), Lib.hid (B0.out.trans HY.out)⟩
  case rest =>
    obtain ⟨H1, B1⟩ := hcut
    clear MK H0 B0
    have hle := (clf_plain s.c0).2
    have L2 := Lib.hid (show (l ++ 64 :: clfL s.c0).length ≤ 130 by rw [List.length_append, List.length_cons]; have := L1.out; omega)
    generalize l ++ 64 :: clfL s.c0 = l2 at *
    have hz := (itoa_pl (n := s.c1) (by omega) (by omega)).2.2
    have c18 := H1.out.cell (j := 18) (u := .int .i64 s.c1) (fun _ _ => rfl)
    have P := Lib.hid (wnum_any s.c1 (by omega) (by omega) B b l2 s _ (Nat.le_trans L2.out (by decide)) H1.out (by omega))
    clear hle L1 q1 q2 hz hc
    go_wp2_with fail
    refine P.out.mono ?_
    rintro e w3 ⟨rfl, hx, hy⟩
    have HX := Lib.hid hx
    have HY := Lib.hid hy
    clear hx hy P c18
    go_wp2_with fail
    go_end0
    exact ⟨rfl, by rw [E0.out]; exact HX.out, B1.out.trans HY.out⟩
def okM5 (s : Sg) : Prop := okM (mq s)
def TM5 (s : Sg) : List UInt8 := 40 :: (texL (mq s) ++ [41] ++ mkL s.stk 124)
set_option maxRecDepth 100000 in
set_option maxHeartbeats 8000000 in
theorem wmens_any : Wm 100 71 TM5 okM5 := by
  intro B b l s W hl hok h
  have hq : okM (mq s) := hok
  obtain ⟨n, hn, en⟩ := okM_of hq
  have hz := (tex_plain n (List.mem_range.2 hn)).2
  rw [← en] at hz
  have TX := Lib.hid (text_any (mq s) W)
  unfold TexPost at TX
  rw [texS_ok hq, chkM_ok hq] at TX
  have H0 := Lib.hid h
  have k10 := h.cell (j := 10) (u := .int .i64 s.m0) (fun _ _ => rfl)
  have k11 := h.cell (j := 11) (u := .int .i64 s.m1) (fun _ _ => rfl)
  have k12 := h.cell (j := 12) (u := .int .i64 s.m2) (fun _ _ => rfl)
  have k13 := h.cell (j := 13) (u := .int .i64 s.m3) (fun _ _ => rfl)
  have htb : texB (mq s) = bytes (texL (mq s)) := rfl
  have hc1 : (⟨#[40]⟩ : ByteArray) ++ bytes (texL (mq s)) = bytes (40 :: texL (mq s)) := bytes_app [40] _
  have hc2 : bytes (40 :: texL (mq s)) ++ (⟨#[41]⟩ : ByteArray) = bytes (40 :: texL (mq s) ++ [41]) := bytes_app _ [41]
  have z1 : ¬ 9223372036854775807 < 1 + (bytes (texL (mq s))).size := by rw [bytes_size]; omega
  have z2 : ¬ 9223372036854775807 < (bytes (40 :: texL (mq s))).size + 1 := by rw [bytes_size, List.length_cons]; omega
  have z3 : ¬ 9223372036854775807 < 1 + (bytes (texL (mq s))).size + 1 := by rw [bytes_size]; omega
  have hlen : (40 :: texL (mq s) ++ [41]).length ≤ 10 := by rw [List.length_append, List.length_cons]; show _ + 1 + 1 ≤ 10; omega
  have L1 := Lib.hid (show (l ++ (40 :: texL (mq s) ++ [41])).length ≤ 110 by rw [List.length_append]; omega)
  have WS := Lib.hid (fun V (hV : WrT B b l s V) => wtl_any (40 :: texL (mq s) ++ [41]) (Nat.le_trans hlen (by decide)) B b l s V (by omega) hV)
  have E0 := Lib.hid (show l ++ TM5 s = l ++ (40 :: texL (mq s) ++ [41]) ++ mkL s.stk 124 by simp [TM5])
  have hBW := h.it.sz
  rw [htb] at TX
  clear h hl hok hq hn en hz htb hlen
  generalize l ++ TM5 s = lz at *
  generalize bytes (40 :: texL (mq s) ++ [41]) = D3 at *
  generalize bytes (40 :: texL (mq s)) = D2 at *
  generalize bytes (texL (mq s)) = D1 at *
  generalize l ++ (40 :: texL (mq s) ++ [41]) = l2 at *
  have TX2 := Lib.hid (show Calls Tryz.prog 132 #[.agg #[.int .i64 s.m0, .int .i64 s.m1, .int .i64 s.m2, .int .i64 s.m3]] W fun e w' => e = .returned (.tuple #[.string D1, .int .i64 0]) ∧ Below W.heap.size W w' from TX.out)
  clear TX
  go_enter Tryz.func71, Tryz.ntmps71
  go_wp2_with fail
  refine TX2.out.mono ?_
  rintro e w1 ⟨rfl, hb⟩
  have B0 := Lib.hid (hb.mono hBW)
  have P := Lib.hid (WS.out w1 (H0.out.later hb))
  clear hb WS H0 TX2 k10 k11 k12 k13 hBW
  go_wp2_with fail
  refine P.out.mono ?_
  rintro e w2 ⟨rfl, hx, hy⟩
  replace B0 := Lib.hid (B0.out.trans hy)
  have c14 := hx.cell (j := 14) (u := .bool s.stk) (fun _ _ => rfl)
  have P2 := Lib.hid (wmark_any s.stk 124 B b l2 s _ (Nat.le_trans L1.out (by decide)) hx)
  clear hx hy P hc1 hc2 z1 z2
  go_wp2_with fail
  refine P2.out.mono ?_
  rintro e w3 ⟨rfl, hx, hy⟩
  have HX := Lib.hid hx
  have HY := Lib.hid hy
  clear hx hy P2 c14
  go_wp2_with fail
  go_end0
  exact ⟨rfl, by rw [E0.out]; exact HX.out, B0.out.trans HY.out⟩
set_option maxRecDepth 100000 in
set_option maxHeartbeats 8000000 in
theorem walone_any (m : List UInt8) (hm : m.length ≤ 10) (g : Nat) (B b : Nat) (l : List UInt8) (s : Sg) (W : World) (hl : l.length ≤ 100) (hg : Txt W g m) (h : WrT B b l s W) :
    Calls Tryz.prog 125 #[.pointer (some ⟨b, 0, none⟩), .pointer (some ⟨g, 0, none⟩)] W fun e W' => e = .returned (.tuple #[]) ∧ WrT B b (l ++ m) s W' ∧ Below B W W' := by
  have cg : W.drew.cell? ⟨g, 0, none⟩ = some (.string (bytes m)) := HoldsB.cell (show Txt W.drew g m from hg) rfl
  have FX := Lib.hid (h.later (w_refl W).drew)
  have GX := Lib.hid (show Txt W.drew g m from hg)
  have hgb : g ≠ b := fun e => by
    subst e
    rcases h.wr with x | x <;> (obtain ⟨v, h1, _⟩ := x.at_; have q : W.heap[g]? = _ := hg; rw [show W.heap[g]? = _ from h1] at q; cases q)
  have NB := Lib.hid hgb
  have WS := Lib.hid (fun V (hV : WrT B b l s V) => (wstr_keep B b l s (bytes m) V hV.wr (by rw [bytes_size]; omega) hV.it.sz).mono fun e w' (q : _ ∧ _ ∧ _ ∧ Kb b V w') => (⟨q.1, ⟨q.2.1, hV.it.later q.2.2.1⟩, q.2.2.1, q.2.2.2⟩ : _ ∧ WrT B b (l ++ (bytes m).data.toList) s w' ∧ Below B V w' ∧ Kb b V w'))
  rw [bytes_data] at WS
  have hBW := h.it.sz
  clear h hg hgb
  go_enter Tryz.func125, Tryz.ntmps125
  go_wp2_with fail
  go_region_held3 (fun V => V.cell? ⟨g, 0, none⟩ = some (.string (bytes m)))
    (first | exact cg | assumption)
    (first
      | (go_at_call 95; refine (WS.out _ FX.out).mono ?_; rintro e wm ⟨rfl, hx, hb, hk⟩; have HX := Lib.hid hx; have HY := Lib.hid hb; have cg2 := HoldsB.cell (j := 0) (v := .string (bytes m)) (hk g 9 _ NB.out (by decide) GX.out) rfl; clear hx hb hk)
      | fail)
  all_goals
    go_end0
    exact ⟨rfl, HX.out, ((w_refl W).drew.mono hBW).trans HY.out⟩
end Go.Proofs.YtdmedealdhadcaaGreatDoor

namespace Go.Proofs.YtdmedealdhadcaaGreatDoor
open Go.RowKit
attribute [local go_sem] sgA_g0 sgA_g1 sgA_g2 sgA_g3 sgA_g4 sgA_g5 sgA_g6 sgA_g7 sgA_g8 sgA_g9 sgA_g10 sgA_g11 sgA_g12 sgA_g13 sgA_g14 sgA_g15 sgA_g16
theorem pfrom_any (n lo hi : Int) (w : World) : Calls Tryz.prog 115 #[.int .i64 n, .int .i64 lo, .int .i64 hi] w fun e w' => e = .returned (.bool (inB n lo hi)) ∧ w = w' := by
  unfold inB
  by_cases h : lo ≤ n
  · by_cases k : n ≤ hi
    · rw [decide_eq_true ⟨h, k⟩]
      go_enter Tryz.func115, Tryz.ntmps115
      go_wp2_with fail
      go_ret
      exact ⟨rfl, rfl⟩
    · rw [decide_eq_false (fun g => k g.2)]
      go_enter Tryz.func115, Tryz.ntmps115
      go_wp2_with fail
      go_ret
      exact ⟨rfl, rfl⟩
  · rw [decide_eq_false (fun g => h g.1)]
    go_enter Tryz.func115, Tryz.ntmps115
    go_wp2_with fail
    go_ret
    exact ⟨rfl, rfl⟩
theorem pval_any (n : Int) (w : World) : Calls Tryz.prog 113 #[.int .i64 n] w fun e w' => e = .returned (.bool (inB n 1 8)) ∧ w = w' := by
  have C := Lib.hid (fun W => pfrom_any n 1 8 W)
  generalize inB n 1 8 = b at *
  go_enter Tryz.func113, Tryz.ntmps113
  go_wp2_with fail
  refine (C.out _).mono ?_
  rintro e w1 ⟨rfl, rfl⟩
  go_wp2_with fail
  go_ret
  exact ⟨rfl, rfl⟩
set_option maxRecDepth 100000 in
theorem pplc_any (s : Sg) (w : World) : Calls Tryz.prog 114 #[sgv s] w fun e w' => e = .returned (.bool (plcB s)) ∧ Below w.heap.size w w' := by
  have HN := sg_new w s
  have B1 := Lib.hid (w_alloc (w_refl w) (sgO s))
  have k2 := HN.cell (j := 2) (v := .int .i64 s.place) rfl
  have k3 := HN.cell (j := 3) (v := .int .i64 s.acc) rfl
  have C1 := Lib.hid (fun W => pfrom_any s.place (-4) 12 W)
  have C2 := Lib.hid (fun W => pfrom_any s.acc (-1) 2 W)
  have HP := Lib.hid (show plcB s = (inB s.place (-4) 12 && inB s.acc (-1) 2) from rfl)
  clear HN
  generalize plcB s = PL at *
  generalize inB s.place (-4) 12 = b1 at *
  generalize inB s.acc (-1) 2 = b2 at *
  cases b1 with
  | true =>
    go_enter Tryz.func114, Tryz.ntmps114
    go_wp2_with (first | (refine wl_box s (by kernel_rfl) ?_) | fail)
    refine (C1.out _).mono ?_
    rintro e w1 ⟨rfl, rfl⟩
    go_wp2_with fail
    refine (C2.out _).mono ?_
    rintro e w1 ⟨rfl, rfl⟩
    go_wp2_with fail
    go_ret
    exact ⟨by rw [HP.out]; rfl, B1.out⟩
  | false =>
    go_enter Tryz.func114, Tryz.ntmps114
    go_wp2_with (first | (refine wl_box s (by kernel_rfl) ?_) | fail)
    refine (C1.out _).mono ?_
    rintro e w1 ⟨rfl, rfl⟩
    go_wp2_with fail
    go_ret
    exact ⟨by rw [HP.out]; rfl, B1.out⟩
theorem keepi_any (b : Bool) (x : Int) (w : World) : Calls Tryz.prog 108 #[.bool b, .int .i64 x] w fun e w' => e = .returned (.int .i64 (kp b x)) ∧ w = w' := by
  cases b
  all_goals
    unfold kp
    go_enter Tryz.func108, Tryz.ntmps108
    go_wp2_with fail
    go_ret
    exact ⟨rfl, rfl⟩
theorem keepb_any (b x : Bool) (w : World) : Calls Tryz.prog 109 #[.bool b, .bool x] w fun e w' => e = .returned (.bool (kpB b x)) ∧ w = w' := by
  cases b
  all_goals
    unfold kpB
    go_enter Tryz.func109, Tryz.ntmps109
    go_wp2_with fail
    go_ret
    exact ⟨rfl, rfl⟩
abbrev kpM (b : Bool) (q : Q4) : Q4 := (kp b q.1, kp b q.2.1, kp b q.2.2.1, kp b q.2.2.2)
abbrev kpC (b : Bool) (c : Cl) : Cl := (kp b c.1, kp b c.2)
set_option maxHeartbeats 1000000 in
theorem keepm_any (b : Bool) (q : Q4) (w : World) : Calls Tryz.prog 110 #[.bool b, mv q] w fun e w' => e = .returned (mv (kpM b q)) ∧ Below w.heap.size w w' := by
  obtain ⟨a, c, d, g⟩ := q
  cases b
  · go_enter Tryz.func110, Tryz.ntmps110
    go_wp2_with fail
    refine bodyPost_ret (v := mv (0, 0, 0, 0)) (by simp [results, Tryz.results110, go_sem]) rfl ⟨rfl, ?_⟩
    exact w_alloc (w_alloc (w_alloc (w_refl w) _) _) _
  · go_enter Tryz.func110, Tryz.ntmps110
    go_wp2_with fail
    refine bodyPost_ret (v := mv (a, c, d, g)) (by simp [results, Tryz.results110, go_sem]) rfl ⟨rfl, ?_⟩
    exact w_alloc (w_alloc (w_alloc (w_refl w) _) _) _
set_option maxHeartbeats 1000000 in
theorem keepc_any (b : Bool) (c : Cl) (w : World) : Calls Tryz.prog 111 #[.bool b, cv c] w fun e w' => e = .returned (cv (kpC b c)) ∧ Below w.heap.size w w' := by
  obtain ⟨a, d⟩ := c
  cases b
  · go_enter Tryz.func111, Tryz.ntmps111
    go_wp2_with fail
    refine bodyPost_ret (v := cv (0, 0)) (by simp [results, Tryz.results111, go_sem]) rfl ⟨rfl, ?_⟩
    exact w_alloc (w_alloc (w_alloc (w_refl w) _) _) _
  · go_enter Tryz.func111, Tryz.ntmps111
    go_wp2_with fail
    refine bodyPost_ret (v := cv (a, d)) (by simp [results, Tryz.results111, go_sem]) rfl ⟨rfl, ?_⟩
    exact w_alloc (w_alloc (w_alloc (w_refl w) _) _) _
set_option maxRecDepth 100000 in
set_option maxHeartbeats 4000000 in
theorem pof_any (f : Fd) (s : Sg) (w : World) : Calls Tryz.prog 61 #[fdv f, sgv s] w fun e w' => e = .returned (sgv (keepS f s)) ∧ Below w.heap.size w w' := by
  have H2 := Lib.hid ((((fd_new w f).al (sgO s)).al zO))
  have H3 := Lib.hid ((sg_new (w.alloc (fdO f)) s).al zO)
  have H4 := Lib.hid (show HoldsB (((w.alloc (fdO f)).alloc (sgO s)).alloc zO) ((w.alloc (fdO f)).alloc (sgO s)).heap.size 27 (sgA zS) from HoldsB.new _ _ _)
  have B4 := Lib.hid (w_alloc (w_alloc (w_alloc (w_refl w) (fdO f)) (sgO s)) zO)
  rw [World.size_alloc] at H3
  rw [World.size_alloc, World.size_alloc] at H4
  go_enter Tryz.func61, Tryz.ntmps61
  go_wp2_with (first | (refine wl_boxF f (by kernel_rfl) ?_) | (refine wl_box s (by kernel_rfl) ?_) | fail)
  generalize ((w.alloc (fdO f)).alloc (sgO s)).alloc zO = y at *
  refine wp_region_last_lit (by simp) (by kernel_rfl) (by kernel_rfl) (by kernel_rfl) (by kernel_rfl) (by kernel_rfl) (by kernel_rfl) ?_
  simp only [List.dropLast_cons_cons, List.dropLast_singleton, List.getLast_cons_cons, List.getLast_singleton]
  have f0 : ∀ n : Grown y, n.W.cell? ⟨w.heap.size, 0, none⟩ = some (.bool f.fv) := fun n => (H2.out.later n.b).cell (j := 0) rfl
  have f1 : ∀ n : Grown y, n.W.cell? ⟨w.heap.size, 1, none⟩ = some (.bool f.fp) := fun n => (H2.out.later n.b).cell (j := 1) rfl
  have f2 : ∀ n : Grown y, n.W.cell? ⟨w.heap.size, 2, none⟩ = some (.bool f.fa) := fun n => (H2.out.later n.b).cell (j := 2) rfl
  have f3 : ∀ n : Grown y, n.W.cell? ⟨w.heap.size, 3, none⟩ = some (.bool f.fc) := fun n => (H2.out.later n.b).cell (j := 3) rfl
  have f4 : ∀ n : Grown y, n.W.cell? ⟨w.heap.size, 4, none⟩ = some (.bool f.fs) := fun n => (H2.out.later n.b).cell (j := 4) rfl
  have f5 : ∀ n : Grown y, n.W.cell? ⟨w.heap.size, 5, none⟩ = some (.bool f.fo) := fun n => (H2.out.later n.b).cell (j := 5) rfl
  have f6 : ∀ n : Grown y, n.W.cell? ⟨w.heap.size, 6, none⟩ = some (.bool f.fl) := fun n => (H2.out.later n.b).cell (j := 6) rfl
  have f7 : ∀ n : Grown y, n.W.cell? ⟨w.heap.size, 7, none⟩ = some (.bool f.fm) := fun n => (H2.out.later n.b).cell (j := 7) rfl
  have f8 : ∀ n : Grown y, n.W.cell? ⟨w.heap.size, 8, none⟩ = some (.bool f.fk) := fun n => (H2.out.later n.b).cell (j := 8) rfl
  have f9 : ∀ n : Grown y, n.W.cell? ⟨w.heap.size, 9, none⟩ = some (.bool f.fn) := fun n => (H2.out.later n.b).cell (j := 9) rfl
  have f10 : ∀ n : Grown y, n.W.cell? ⟨w.heap.size, 10, none⟩ = some (.bool f.fd) := fun n => (H2.out.later n.b).cell (j := 10) rfl
  have f11 : ∀ n : Grown y, n.W.cell? ⟨w.heap.size, 11, none⟩ = some (.bool f.fC) := fun n => (H2.out.later n.b).cell (j := 11) rfl
  have g0 : ∀ n : Grown y, n.W.cell? ⟨w.heap.size + 1, 0, none⟩ = some (.int .i64 s.kind) := fun n => (H3.out.later n.b).cell (j := 0) rfl
  have g1 : ∀ n : Grown y, n.W.cell? ⟨w.heap.size + 1, 1, none⟩ = some (.int .i64 s.val) := fun n => (H3.out.later n.b).cell (j := 1) rfl
  have g2 : ∀ n : Grown y, n.W.cell? ⟨w.heap.size + 1, 2, none⟩ = some (.int .i64 s.place) := fun n => (H3.out.later n.b).cell (j := 2) rfl
  have g3 : ∀ n : Grown y, n.W.cell? ⟨w.heap.size + 1, 3, none⟩ = some (.int .i64 s.acc) := fun n => (H3.out.later n.b).cell (j := 3) rfl
  have g4 : ∀ n : Grown y, n.W.cell? ⟨w.heap.size + 1, 4, none⟩ = some (.bool s.col) := fun n => (H3.out.later n.b).cell (j := 4) rfl
  have g5 : ∀ n : Grown y, n.W.cell? ⟨w.heap.size + 1, 5, none⟩ = some (.int .i64 s.stem) := fun n => (H3.out.later n.b).cell (j := 5) rfl
  have g6 : ∀ n : Grown y, n.W.cell? ⟨w.heap.size + 1, 6, none⟩ = some (.bool s.obl) := fun n => (H3.out.later n.b).cell (j := 6) rfl
  have g7 : ∀ n : Grown y, n.W.cell? ⟨w.heap.size + 1, 7, none⟩ = some (.bool s.last) := fun n => (H3.out.later n.b).cell (j := 7) rfl
  have g8 : ∀ n : Grown y, n.W.cell? ⟨w.heap.size + 1, 8, none⟩ = some (.int .i64 s.m0) := fun n => (H3.out.later n.b).cell (j := 8) rfl
  have g9 : ∀ n : Grown y, n.W.cell? ⟨w.heap.size + 1, 9, none⟩ = some (.int .i64 s.m1) := fun n => (H3.out.later n.b).cell (j := 9) rfl
  have g10 : ∀ n : Grown y, n.W.cell? ⟨w.heap.size + 1, 10, none⟩ = some (.int .i64 s.m2) := fun n => (H3.out.later n.b).cell (j := 10) rfl
  have g11 : ∀ n : Grown y, n.W.cell? ⟨w.heap.size + 1, 11, none⟩ = some (.int .i64 s.m3) := fun n => (H3.out.later n.b).cell (j := 11) rfl
  have g12 : ∀ n : Grown y, n.W.cell? ⟨w.heap.size + 1, 12, none⟩ = some (.bool s.stk) := fun n => (H3.out.later n.b).cell (j := 12) rfl
  have g13 : ∀ n : Grown y, n.W.cell? ⟨w.heap.size + 1, 13, none⟩ = some (.int .i64 s.n) := fun n => (H3.out.later n.b).cell (j := 13) rfl
  have g14 : ∀ n : Grown y, n.W.cell? ⟨w.heap.size + 1, 14, none⟩ = some (.int .i64 s.d) := fun n => (H3.out.later n.b).cell (j := 14) rfl
  have g15 : ∀ n : Grown y, n.W.cell? ⟨w.heap.size + 1, 15, none⟩ = some (.int .i64 s.c0) := fun n => (H3.out.later n.b).cell (j := 15) rfl
  have g16 : ∀ n : Grown y, n.W.cell? ⟨w.heap.size + 1, 16, none⟩ = some (.int .i64 s.c1) := fun n => (H3.out.later n.b).cell (j := 16) rfl
  have KI := Lib.hid (show ∀ (b : Bool) (x : Int) (n : Grown y), Calls Tryz.prog 108 #[.bool b, .int .i64 x] n.W fun e w' => e = .returned (.int .i64 (kp b x)) ∧ Grew y w' from fun b x n => (keepi_any b x n.W).mono fun e w' ⟨h1, h2⟩ => ⟨h1, n, h2.symm⟩)
  have KB := Lib.hid (show ∀ (b x : Bool) (n : Grown y), Calls Tryz.prog 109 #[.bool b, .bool x] n.W fun e w' => e = .returned (.bool (kpB b x)) ∧ Grew y w' from fun b x n => (keepb_any b x n.W).mono fun e w' ⟨h1, h2⟩ => ⟨h1, n, h2.symm⟩)
  have KM := Lib.hid (show ∀ (b : Bool) (p q r t : Int) (n : Grown y), Calls Tryz.prog 110 #[.bool b, .agg #[.int .i64 p, .int .i64 q, .int .i64 r, .int .i64 t]] n.W fun e w' => e = .returned (.agg #[.int .i64 (kp b p), .int .i64 (kp b q), .int .i64 (kp b r), .int .i64 (kp b t)]) ∧ Grew y w' from fun b p q r t n => (keepm_any b (p, q, r, t) n.W).mono fun e w' ⟨h1, h2⟩ => ⟨h1, n.on h2, rfl⟩)
  have KC := Lib.hid (show ∀ (b : Bool) (p q : Int) (n : Grown y), Calls Tryz.prog 111 #[.bool b, .agg #[.int .i64 p, .int .i64 q]] n.W fun e w' => e = .returned (.agg #[.int .i64 (kp b p), .int .i64 (kp b q)]) ∧ Grew y w' from fun b p q n => (keepc_any b (p, q) n.W).mono fun e w' ⟨h1, h2⟩ => ⟨h1, n.on h2, rfl⟩)
  repeat (go_big_quiet_step ((first | exact KI.out _ _ _ | exact KB.out _ _ _ | exact KM.out _ _ _ _ _ _ | exact KC.out _ _ _ _)))
  refine wpQuiet_nil ?_
  intro n
  refine wl_rowS (w.heap.size + 1 + 1) _ (keepS f s) (H4.out.later n.b) (by kernel_rfl) (by kernel_rfl) rfl ?_
  intro W' h1 h2 h3
  have B5 := Lib.hid (h2 _ _ (w_below B4.out n.b) (by omega))
  clear h2 h3 f0 f1 f2 f3 f4 f5 f6 f7 f8 f9 f10 f11 g0 g1 g2 g3 g4 g5 g6 g7 g8 g9 g10 g11 g12 g13 g14 g15 g16
  go_wp2_with fail
  refine bodyPost_ret (res_sg rfl (by kernel_rfl) h1.sg) rfl ⟨rfl, B5.out⟩
end Go.Proofs.YtdmedealdhadcaaGreatDoor

namespace Go.Proofs.YtdmedealdhadcaaGreatDoor
open Go.RowKit
attribute [local go_sem] sgA_g0 sgA_g1 sgA_g2 sgA_g3 sgA_g4 sgA_g5 sgA_g6 sgA_g7 sgA_g8 sgA_g9 sgA_g10 sgA_g11 sgA_g12 sgA_g13 sgA_g14 sgA_g15 sgA_g16
theorem kinds_of {k : Int} (h : kOk k) : k = 1 ∨ k = 2 ∨ k = 3 ∨ k = 4 ∨ k = 5 ∨ k = 6 ∨ k = 7 ∨ k = 8 ∨ k = 9 ∨ k = 10 ∨ k = 11 ∨ k = 12 := by
  obtain ⟨h1, h2⟩ := h
  omega
theorem no_kind {k : Int} (h : ¬ kOk k) : ∀ m : Int, 1 ≤ m → m ≤ 12 → (k == m) = false := fun m h1 h2 => by
  have : k ≠ m := fun e => h ⟨by omega, by omega⟩
  simp [this]
set_option maxHeartbeats 2000000 in
theorem pcls_any (k : Int) (w : World) : Calls Tryz.prog 60 #[.int .i64 k] w fun e w' => e = .returned (.tuple #[.int .i64 (clsV k).1, .int .i64 (clsV k).2]) ∧ w = w' := by
  by_cases h : kOk k
  · rcases kinds_of h with rfl | rfl | rfl | rfl | rfl | rfl | rfl | rfl | rfl | rfl | rfl | rfl
    all_goals
      unfold clsV
      go_enter Tryz.func60, Tryz.ntmps60
      go_wp2_with fail
      go_ret2
      exact ⟨rfl, rfl⟩
  · rw [kcls_no h]
    have N := no_kind h
    have n1 := N 1 (by decide) (by decide)
    have n2 := N 2 (by decide) (by decide)
    have n3 := N 3 (by decide) (by decide)
    have n4 := N 4 (by decide) (by decide)
    have n5 := N 5 (by decide) (by decide)
    have n6 := N 6 (by decide) (by decide)
    have n7 := N 7 (by decide) (by decide)
    have n8 := N 8 (by decide) (by decide)
    have n9 := N 9 (by decide) (by decide)
    have n10 := N 10 (by decide) (by decide)
    have n11 := N 11 (by decide) (by decide)
    have n12 := N 12 (by decide) (by decide)
    clear N h
    go_enter Tryz.func60, Tryz.ntmps60
    go_wp2_with fail
    go_ret2
    exact ⟨rfl, rfl⟩
end Go.Proofs.YtdmedealdhadcaaGreatDoor
