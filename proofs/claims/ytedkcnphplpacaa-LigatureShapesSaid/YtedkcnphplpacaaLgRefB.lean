/- The reference's note. -/
import Derived.Test.YtedkcnphplpacaaLgRefA
namespace Go.Proofs.Ytedkcnphplpacaa
open Go.RowKit
attribute [local go_sem] sgA_g0 sgA_g1 sgA_g2 sgA_g3 sgA_g4 sgA_g5 sgA_g6 sgA_g7 sgA_g8 sgA_g9 sgA_g10 sgA_g11 sgA_g12 sgA_g13 sgA_g14 sgA_g15 sgA_g16

theorem note_rest {l : List Sg} {i : Nat} {s : Sg} (h1 : ¬ s.kind ≠ 4) (h2 : ¬ badRange s) : noteE l i s = if formA l i s = true then 3 else if formB i s = true then 3 else if formC l i s = true then 3 else if formD l i s = true then 3 else if formE l i s = true then 3 else 0 := by
  unfold noteE; rw [if_neg h1, if_neg h2]

set_option maxRecDepth 100000 in
set_option maxHeartbeats 8000000 in
theorem rnote_any (l : List Sg) (i : Nat) (hi : i < l.length) (hm : l.length ≤ 1000) (p : Option Addr) (cap : Nat) (w : World) (h : SlP w 17 p l.length cap (flatG l)) :
    Calls Try.prog 42 #[.slice p l.length cap, .int .i64 i] w fun e w' => e = .returned (.int .i64 (errG l i)) ∧ Below w.heap.size w w' := by
  have f1 := h.fit
  have f2 := h.max
  obtain ⟨b, off, rfl, _, hs⟩ := h.sg (sg_some hi)
  have HL := Lib.hid h
  have HS := Lib.hid hs
  have hlt : (i : Int) < l.length := by omega
  have hi0 : (0 : Int) ≤ i := by omega
  clear h hs
  unfold errG
  generalize l.getD i zS = s at *
  have HN := Lib.hid (sg_new w s)
  have B1 := Lib.hid (w_alloc (w_refl w) (sgO s))
  have k0 := HN.out.cell (j := 0) (v := .int .i64 s.kind) rfl
  have k2 := HN.out.cell (j := 2) (v := .int .i64 s.place) rfl
  have k3 := HN.out.cell (j := 3) (v := .int .i64 s.acc) rfl
  have k5 := HN.out.cell (j := 5) (v := .int .i64 s.stem) rfl
  by_cases hk : s.kind ≠ 4
  · rw [show noteE l i s = 8 from if_pos hk]
    have hk1 : (s.kind != 4) = true := by simp [hk]
    have hk2 : (s.kind == 4) = false := by simp [hk]
    clear hk
    go_enter Try.func42, Try.ntmps42
    go_wp2_with (first | (refine wl_load b (off + i * 17) s (by kernel_rfl) HS.out ?_) | (refine wl_store w.heap.size _ s rfl (by kernel_rfl) (by kernel_rfl) rfl ?_) | fail)
    go_ret
    exact ⟨rfl, B1.out⟩
  have hk1 : (s.kind != 4) = false := by simpa using hk
  have hk2 : (s.kind == 4) = true := by simpa using hk
  by_cases hr : badRange s
  · rw [show noteE l i s = 2 by unfold noteE; rw [if_neg hk, if_pos hr]]
    clear hk
    have ways : s.place < -4 ∨ (-4 ≤ s.place ∧ 12 < s.place) ∨ (-4 ≤ s.place ∧ s.place ≤ 12 ∧ s.acc < -1) ∨ (-4 ≤ s.place ∧ s.place ≤ 12 ∧ -1 ≤ s.acc ∧ 2 < s.acc) ∨ (-4 ≤ s.place ∧ s.place ≤ 12 ∧ -1 ≤ s.acc ∧ s.acc ≤ 2 ∧ s.stem < 0) ∨ (-4 ≤ s.place ∧ s.place ≤ 12 ∧ -1 ≤ s.acc ∧ s.acc ≤ 2 ∧ 0 ≤ s.stem ∧ 3 < s.stem) := by
      unfold badRange at hr; omega
    clear hr
    rcases ways with g1 | ⟨g1, g2⟩ | ⟨g1, g2, g3⟩ | ⟨g1, g2, g3, g4⟩ | ⟨g1, g2, g3, g4, g5⟩ | ⟨g1, g2, g3, g4, g5, g6⟩
    all_goals
      go_enter Try.func42, Try.ntmps42
      go_wp2_with (first | (refine wl_load b (off + i * 17) s (by kernel_rfl) HS.out ?_) | (refine wl_store w.heap.size _ s rfl (by kernel_rfl) (by kernel_rfl) rfl ?_) | fail)
      go_ret
      exact ⟨rfl, B1.out⟩
  have HE := Lib.hid (note_rest (l := l) (i := i) hk hr)
  generalize noteE l i s = E at *
  have g1 : -4 ≤ s.place := by unfold badRange at hr; omega
  have g2 : s.place ≤ 12 := by unfold badRange at hr; omega
  have g3 : -1 ≤ s.acc := by unfold badRange at hr; omega
  have g4 : s.acc ≤ 2 := by unfold badRange at hr; omega
  have g5 : 0 ≤ s.stem := by unfold badRange at hr; omega
  have g6 : s.stem ≤ 3 := by unfold badRange at hr; omega
  have x1 : IntKind.i64.wrap ((l.length : Int) - 1) = (l.length : Int) - 1 := IntWalk.i64_in _ (by omega)
  have hlb : ((i : Int) == (l.length : Int) - 1) = lastB l i := by
    unfold lastB
    by_cases e : i + 1 = l.length
    · rw [decide_eq_true e]; simp; omega
    · rw [decide_eq_false e]; simp; omega
  have HA := Lib.hid (show formA l i s = ((s.last != lastB l i) || !(sgE s (bareS s))) from rfl)
  generalize formA l i s = A at *
  have HLB := Lib.hid (show lastB l i = decide (i + 1 = l.length) from rfl)
  generalize lastB l i = LB at *
  have BA := Lib.hid (fun W => rbare_any s W)
  have hneq := fun W => sg_neq s (bareS s) W
  have hgrd := fun x y W => sg_guard BinOp.neq x y s (bareS s) W
  clear hk hr
  go_enter Try.func42, Try.ntmps42
  go_wp2_with (first | (refine wl_load b (off + i * 17) s (by kernel_rfl) HS.out ?_) | (refine wl_store w.heap.size _ s rfl (by kernel_rfl) (by kernel_rfl) rfl ?_) | fail)
  clear hk1 hk2 g1 g2 g3 g4 k0 k2 k3 k5
  go_cut [39] (fun s39 wx => s39 = .bool A ∧ Hid (Below w.heap.size w wx ∧ HoldsB wx w.heap.size 30 (sgA s)))
  case first =>
    have k7 := HN.out.cell (j := 7) rfl
    by_cases hq : s.last = LB
    · have hq1 : (s.last != LB) = false := by simp [hq]
      have hq2 : (s.last == LB) = true := by simp [hq]
      have hA : A = !(sgE s (bareS s)) := by rw [HA.out, hq1]; rfl
      have FX0 := Lib.hid (show Below w.heap.size w (w.alloc (sgO s)).drew ∧ HoldsB (w.alloc (sgO s)).drew w.heap.size 30 (sgA s) from ⟨B1.out.drew, HN.out.later (w_refl _).drew⟩)
      have hld : ∀ W, W.cell? ⟨w.heap.size, 7, none⟩ = some (.bool s.last) ∧ SgAt W w.heap.size 0 s → (Instr.loadAt 30 (.pointer (some ⟨w.heap.size, 0, none⟩))).run Try.prog W = .ok (sgv s) W := fun W hW => sg_loadAt hW.2
      clear HA HN B1 k7
      clear hld
      refine wp_region_held (S := (fun W => W.cell? ⟨w.heap.size, 7, none⟩ = some (.bool s.last) ∧ SgAt W w.heap.size 0 s)) (by kernel_rfl) ?_
      change wpAnyH _ _ _ _ _ _ _ _ (World.drew _)
      generalize hw0 : World.drew (w.alloc (sgO s)) = y
      have FX := Lib.hid (show Below w.heap.size w y ∧ HoldsB y w.heap.size 30 (sgA s) from hw0 ▸ FX0.out)
      clear FX0
      clear hw0
      refine wpAnyH_take (i := 0) (v := .pointer (some ⟨w.heap.size, 7, none⟩)) rfl (by kernel_rfl) (by kernel_rfl) (by kernel_rfl) (fun _ _ _ h => h) (Or.inl ⟨by kernel_rfl, fun _ _ => by go_simp⟩) ⟨FX.out.2.cell (j := 7) rfl, FX.out.2.sg⟩ ?_
      refine wpAnyH_take (i := 1) (v := .bool s.last) rfl (by kernel_rfl) (by kernel_rfl) (by kernel_rfl) (fun _ _ _ h => h) (Or.inl ⟨by kernel_rfl, fun W hW => by (obtain ⟨c7, _⟩ := hW; go_simp)⟩) ⟨FX.out.2.cell (j := 7) rfl, FX.out.2.sg⟩ ?_
      refine wpAnyH_take (i := 2) (v := .int .i64 (i : Int)) rfl (by kernel_rfl) (by kernel_rfl) (by kernel_rfl) (fun _ _ _ h => h) (Or.inl ⟨by kernel_rfl, fun _ _ => by go_simp⟩) ⟨FX.out.2.cell (j := 7) rfl, FX.out.2.sg⟩ ?_
      refine wpAnyH_take (i := 3) (v := .slice (some ⟨b, off, none⟩) l.length cap) rfl (by kernel_rfl) (by kernel_rfl) (by kernel_rfl) (fun _ _ _ h => h) (Or.inl ⟨by kernel_rfl, fun _ _ => by go_simp⟩) ⟨FX.out.2.cell (j := 7) rfl, FX.out.2.sg⟩ ?_
      refine wpAnyH_take (i := 4) (v := .int .i64 (l.length : Int)) rfl (by kernel_rfl) (by kernel_rfl) (by kernel_rfl) (fun _ _ _ h => h) (Or.inl ⟨by kernel_rfl, fun _ _ => by go_simp⟩) ⟨FX.out.2.cell (j := 7) rfl, FX.out.2.sg⟩ ?_
      refine wpAnyH_take (i := 5) (v := .int .i64 ((l.length : Int) - 1)) rfl (by kernel_rfl) (by kernel_rfl) (by kernel_rfl) (fun _ _ _ h => h) (Or.inl ⟨by kernel_rfl, fun _ _ => by go_simp⟩) ⟨FX.out.2.cell (j := 7) rfl, FX.out.2.sg⟩ ?_
      refine wpAnyH_take (i := 6) (v := .bool LB) rfl (by kernel_rfl) (by kernel_rfl) (by kernel_rfl) (fun _ _ _ h => h) (Or.inl ⟨by kernel_rfl, fun _ _ => by go_simp⟩) ⟨FX.out.2.cell (j := 7) rfl, FX.out.2.sg⟩ ?_
      refine wpAnyH_take (i := 7) (v := .bool false) rfl (by kernel_rfl) (by kernel_rfl) (by kernel_rfl) (fun _ _ _ h => h) (Or.inl ⟨by kernel_rfl, fun _ _ => by go_simp⟩) ⟨FX.out.2.cell (j := 7) rfl, FX.out.2.sg⟩ ?_
      refine wpAnyH_take (i := 8) (v := .bool false) rfl (by kernel_rfl) (by kernel_rfl) (by kernel_rfl) (fun _ _ _ h => h) (Or.inl ⟨by kernel_rfl, fun _ _ => by go_simp⟩) ⟨FX.out.2.cell (j := 7) rfl, FX.out.2.sg⟩ ?_
      refine wpAnyH_take (i := 9) (v := sgv s) rfl (by kernel_rfl) (by kernel_rfl) (by kernel_rfl) (fun _ _ _ h => h) (sg_yields (.tmp 5) w.heap.size 0 s (by kernel_rfl) rfl (by kernel_rfl) (fun _ h => h.2)) ⟨FX.out.2.cell (j := 7) rfl, FX.out.2.sg⟩ ?_
      refine wpAnyH_take (i := 10) (v := sgv s) rfl (by kernel_rfl) (by kernel_rfl) (by kernel_rfl) (fun _ _ _ h => h) (sg_yields (.tmp 5) w.heap.size 0 s (by kernel_rfl) rfl (by kernel_rfl) (fun _ h => h.2)) ⟨FX.out.2.cell (j := 7) rfl, FX.out.2.sg⟩ ?_
      refine wpAnyH_ready (rs := [11]) (by kernel_rfl) (by simp) ?_
      refine AllReadyH.cons rfl (fun K hK => ?_) AllReadyH.nil
      rw [if_pos (by kernel_rfl)]
      go_simp
      go_at_call 57
      refine (BA.out _).mono ?_
      rintro e wn ⟨rfl, hb⟩
      replace FX := Lib.hid (show _ ∧ _ from ⟨w_below FX.out.1 hb, FX.out.2.later hb⟩)
      clear hb BA
      go_simp
      refine hK.out _ _ ⟨FX.out.2.cell (j := 7) rfl, FX.out.2.sg⟩ (fun _ => ?_)
      clear hK K
      refine wpAnyH_take (i := 12) (v := .bool (!(sgE s (bareS s)))) rfl (by kernel_rfl) (by kernel_rfl) (by kernel_rfl) (fun _ _ _ h => h) (Or.inl ⟨by kernel_rfl, fun _ _ => by go_simp⟩) ⟨FX.out.2.cell (j := 7) rfl, FX.out.2.sg⟩ ?_
      refine wpAnyH_take (i := 13) (v := .bool (!(sgE s (bareS s)))) rfl (by kernel_rfl) (by kernel_rfl) (by kernel_rfl) (fun _ _ _ h => h) (Or.inl ⟨by kernel_rfl, fun _ _ => by go_simp⟩) ⟨FX.out.2.cell (j := 7) rfl, FX.out.2.sg⟩ ?_
      refine wpAnyH_take (i := 14) (v := .bool (!(sgE s (bareS s)))) rfl (by kernel_rfl) (by kernel_rfl) (by kernel_rfl) (fun _ _ _ h => h) (Or.inl ⟨by kernel_rfl, fun _ _ => by go_simp⟩) ⟨FX.out.2.cell (j := 7) rfl, FX.out.2.sg⟩ ?_
      refine wpAnyH_done (by kernel_rfl) ?_ _
      go_wp2_with fail
      go_meet
      exact ⟨by rw [hA], FX⟩
    · have hq1 : (s.last != LB) = true := by simpa using hq
      have hq2 : (s.last == LB) = false := by simpa using hq
      have hA : A = true := by rw [HA.out, hq1]; rfl
      clear HA hneq hgrd BA
      go_quiet (fail)
      go_wp2_with fail
      go_meet
      exact ⟨by rw [hA], Lib.hid ⟨B1.out.trans ⟨rfl, rfl, rfl, Nat.le_refl _, fun _ _ => rfl⟩, HN.out.later ⟨rfl, rfl, rfl, Nat.le_refl _, fun _ _ => rfl⟩⟩⟩
  case rest =>
    obtain ⟨rfl, FY⟩ := hcut
    clear HA BA hneq hgrd HN B1
    cases A with
    | true =>
      have hE := Lib.hid (show E = 3 by rw [HE.out, if_pos rfl])
      clear HE
      go_wp2_with fail
      go_ret
      exact ⟨by rw [hE.out]; rfl, FY.out.1⟩
    | false =>
    rw [if_neg (by decide)] at HE
    have HB := Lib.hid (show formB i s = (decide (0 < i) && (s.stem == 1 || s.stem == 2)) from rfl)
    generalize formB i s = BB at *
    go_upto_region 10 with (fail)
    go_cut [54] (fun s54 wx => s54 = .bool BB ∧ Hid (Below w.heap.size w wx ∧ HoldsB wx w.heap.size 30 (sgA s)))
    case first =>
      have k5 := FY.out.2.cell (j := 5) (v := .int .i64 s.stem) rfl
      by_cases hpos : 0 < i
      · have hp1 : (0 : Int) < i := by omega
        rw [decide_eq_true hpos] at HB
        by_cases h1 : s.stem = 1
        · have q1 : (s.stem == 1) = true := by simp [h1]
          rw [q1] at HB
          have hB := HB.out
          clear HB h1
          go_wp2_with fail
          go_meet
          exact ⟨by rw [hB]; rfl, FY⟩
        · have q1 : (s.stem == 1) = false := by simp [h1]
          rw [q1] at HB
          by_cases h2 : s.stem = 2
          · have q2 : (s.stem == 2) = true := by simp [h2]
            rw [q2] at HB
            have hB := HB.out
            clear HB h1 h2
            go_wp2_with fail
            go_meet
            exact ⟨by rw [hB]; rfl, FY⟩
          · have q2 : (s.stem == 2) = false := by simp [h2]
            rw [q2] at HB
            have hB := HB.out
            clear HB h1 h2
            go_wp2_with fail
            go_meet
            exact ⟨by rw [hB]; rfl, FY⟩
      · have hp1 : ¬ (0 : Int) < i := by omega
        rw [decide_eq_false hpos] at HB
        have hB := HB.out
        clear HB
        go_wp2_with fail
        go_meet
        exact ⟨by rw [hB]; rfl, FY⟩
    case rest =>
    clear FY HB
    obtain ⟨rfl, FY⟩ := hcut
    cases BB with
    | true =>
      have hE := Lib.hid (show E = 3 by rw [HE.out, if_pos rfl])
      clear HE
      go_wp2_with fail
      go_ret
      exact ⟨by rw [hE.out]; rfl, FY.out.1⟩
    | false =>
    rw [if_neg (by decide)] at HE
    have HC := Lib.hid (show formC l i s = (s.obl && (LB || (decide (s.place ≤ (l.getD (i + 1) zS).place) || (l.getD (i + 1) zS).obl))) by rw [HLB.out]; rfl)
    generalize formC l i s = CC at *
    go_upto_region 12 with (fail)
    go_cut [67] (fun s67 wx => s67 = .bool CC ∧ Hid (Below w.heap.size w wx ∧ HoldsB wx w.heap.size 30 (sgA s)))
    case first =>
      have k6 := FY.out.2.cell (j := 6) (v := .bool s.obl) rfl
      have k2 := FY.out.2.cell (j := 2) (v := .int .i64 s.place) rfl
      cases ho : s.obl with
      | false =>
        rw [ho] at k6 HC
        have hB := HC.out
        clear HC k2
        go_quiet (fail)
        go_wp2_with fail
        go_meet
        exact ⟨by rw [hB]; rfl, Lib.hid ⟨FY.out.1.trans ⟨rfl, rfl, rfl, Nat.le_refl _, fun _ _ => rfl⟩, FY.out.2.later ⟨rfl, rfl, rfl, Nat.le_refl _, fun _ _ => rfl⟩⟩⟩
      | true =>
        rw [ho] at k6 HC
        by_cases hl : i + 1 = l.length
        · have hLB : LB = true := by rw [HLB.out, decide_eq_true hl]
          rw [hLB] at HC hlb
          have hB := HC.out
          clear HC hl
          go_quiet (fail)
          go_wp2_with fail
          go_meet
          exact ⟨by rw [hB]; rfl, Lib.hid ⟨FY.out.1.trans ⟨rfl, rfl, rfl, Nat.le_refl _, fun _ _ => rfl⟩, FY.out.2.later ⟨rfl, rfl, rfl, Nat.le_refl _, fun _ _ => rfl⟩⟩⟩
        · have hLB : LB = false := by rw [HLB.out, decide_eq_false hl]
          rw [hLB] at HC hlb
          have hn : i + 1 < l.length := by omega
          have hn1 : (i : Int) + 1 < l.length := by omega
          have hn0 : (0 : Int) ≤ (i : Int) + 1 := by omega
          have x2 : IntKind.i64.wrap ((i : Int) + 1) = (i : Int) + 1 := IntWalk.i64_in _ (by omega)
          obtain ⟨_, _, e9, _, hnx⟩ := (HL.out.later FY.out.1).sg (sg_some hn)
          injection e9 with e9
          injection e9 with e9 e10 _
          subst e9 e10
          generalize l.getD (i + 1) zS = nx at *
          have n2 := hnx.e2
          have n6 := hnx.e6
          clear hnx hl hn
          by_cases hp : s.place ≤ nx.place
          · rw [decide_eq_true hp] at HC
            have hB := HC.out
            clear HC
            go_quiet (fail)
            go_wp2_with fail
            go_meet
            exact ⟨by rw [hB]; rfl, Lib.hid ⟨FY.out.1.trans ⟨rfl, rfl, rfl, Nat.le_refl _, fun _ _ => rfl⟩, FY.out.2.later ⟨rfl, rfl, rfl, Nat.le_refl _, fun _ _ => rfl⟩⟩⟩
          · have hp' : ¬ (s.place ≤ nx.place) := hp
            rw [decide_eq_false hp] at HC
            have hB := HC.out
            clear HC
            go_quiet (fail)
            go_wp2_with fail
            go_meet
            exact ⟨by rw [hB]; simp, Lib.hid ⟨FY.out.1.trans ⟨rfl, rfl, rfl, Nat.le_refl _, fun _ _ => rfl⟩, FY.out.2.later ⟨rfl, rfl, rfl, Nat.le_refl _, fun _ _ => rfl⟩⟩⟩
    case rest =>
    clear FY HC
    obtain ⟨rfl, FY⟩ := hcut
    cases CC with
    | true =>
      have hE := Lib.hid (show E = 3 by rw [HE.out, if_pos rfl])
      clear HE
      go_wp2_with fail
      go_ret
      exact ⟨by rw [hE.out]; rfl, FY.out.1⟩
    | false =>
    rw [if_neg (by decide)] at HE
    have HD := Lib.hid (show formD l i s = (decide (0 < i) && (s.place == (l.getD (i - 1) zS).place)) from rfl)
    generalize formD l i s = DD at *
    go_upto_region 14 with (fail)
    go_cut [96] (fun s96 wx => s96 = .bool DD ∧ Hid (Below w.heap.size w wx ∧ HoldsB wx w.heap.size 30 (sgA s)))
    case first =>
      have k2 := FY.out.2.cell (j := 2) (v := .int .i64 s.place) rfl
      by_cases hpos : 0 < i
      · obtain ⟨j, rfl⟩ : ∃ j, i = j + 1 := ⟨i - 1, by omega⟩
        rw [decide_eq_true hpos, Nat.add_sub_cancel] at HD
        have hp1 : (0 : Int) < ((j + 1 : Nat) : Int) := by omega
        have x2 : IntKind.i64.wrap (((j + 1 : Nat) : Int) - 1) = (j : Int) := by rw [IntWalk.i64_in _ (by omega)]; omega
        have hj0 : (0 : Int) ≤ (j : Int) := by omega
        have hj1 : (j : Int) < l.length := by omega
        obtain ⟨_, _, e9, _, hnx⟩ := (HL.out.later FY.out.1).sg (sg_some (show j < l.length by omega))
        injection e9 with e9
        injection e9 with e9 e10 _
        subst e9 e10
        generalize l.getD j zS = nx at *
        have n2 := hnx.e2
        clear hnx
        generalize ((j + 1 : Nat) : Int) = ji at *
        have hB := HD.out
        clear HD
        go_quiet (fail)
        go_wp2_with fail
        go_meet
        exact ⟨by rw [hB]; rfl, Lib.hid ⟨FY.out.1.trans ⟨rfl, rfl, rfl, Nat.le_refl _, fun _ _ => rfl⟩, FY.out.2.later ⟨rfl, rfl, rfl, Nat.le_refl _, fun _ _ => rfl⟩⟩⟩
      · have hp1 : ¬ (0 : Int) < i := by omega
        rw [decide_eq_false hpos] at HD
        have hB := HD.out
        clear HD
        go_quiet (fail)
        go_wp2_with fail
        go_meet
        exact ⟨by rw [hB]; rfl, Lib.hid ⟨FY.out.1.trans ⟨rfl, rfl, rfl, Nat.le_refl _, fun _ _ => rfl⟩, FY.out.2.later ⟨rfl, rfl, rfl, Nat.le_refl _, fun _ _ => rfl⟩⟩⟩
    case rest =>
    clear FY HD
    obtain ⟨rfl, FY⟩ := hcut
    cases DD with
    | true =>
      have hE := Lib.hid (show E = 3 by rw [HE.out, if_pos rfl])
      clear HE
      go_wp2_with fail
      go_ret
      exact ⟨by rw [hE.out]; rfl, FY.out.1⟩
    | false =>
    rw [if_neg (by decide)] at HE
    have HF := Lib.hid (show formE l i s = ((decide (i = 1) && s.stem == 3) && (l.getD 0 zS).stem == 1) from rfl)
    generalize formE l i s = EE at *
    go_upto_region 16 with (fail)
    go_cut [110] (fun s110 wx => s110 = .bool EE ∧ Hid (Below w.heap.size w wx))
    case first =>
      have k5 := FY.out.2.cell (j := 5) (v := .int .i64 s.stem) rfl
      obtain ⟨_, _, e9, _, hnx⟩ := (HL.out.later FY.out.1).sg (sg_some (show 0 < l.length by omega))
      injection e9 with e9
      injection e9 with e9 e10 _
      subst e9 e10
      generalize l.getD 0 zS = nx at *
      have n5 := hnx.e5
      simp only [Nat.zero_mul, Nat.add_zero] at n5
      have hl0 : (0 : Int) < l.length := by omega
      clear hnx
      by_cases h1 : i = 1
      · subst h1
        cases h3 : (s.stem == 3) with
        | false =>
          rw [h3] at HF
          have hB := HF.out
          clear HF
          go_wp2_with fail
          go_meet
          exact ⟨by rw [hB]; rfl, Lib.hid FY.out.1⟩
        | true =>
          rw [h3] at HF
          have hB := HF.out
          clear HF
          go_wp2_with fail
          go_meet
          exact ⟨by rw [hB]; rfl, Lib.hid FY.out.1⟩
      · have h2 : ((i : Int) == 1) = false := by simp; omega
        rw [decide_eq_false h1] at HF
        have hB := HF.out
        clear HF
        go_wp2_with fail
        go_meet
        exact ⟨by rw [hB]; rfl, Lib.hid FY.out.1⟩
    case rest =>
    clear FY HF
    obtain ⟨rfl, FY⟩ := hcut
    cases EE with
    | true =>
      have hE := Lib.hid (show E = 3 by rw [HE.out, if_pos rfl])
      clear HE
      go_wp2_with fail
      go_ret
      exact ⟨by rw [hE.out]; rfl, FY.out⟩
    | false =>
      have hE := Lib.hid (show E = 0 by rw [HE.out, if_neg (by decide)])
      clear HE
      go_wp2_with fail
      go_ret
      exact ⟨by rw [hE.out]; rfl, FY.out⟩

end Go.Proofs.Ytedkcnphplpacaa
