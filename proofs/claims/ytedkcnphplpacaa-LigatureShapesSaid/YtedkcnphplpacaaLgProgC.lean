/- The program's Check. -/
import Derived.Test.YtedkcnphplpacaaLgProgB
import Derived.Test.YtedkcnphplpacaaLgRefD
namespace Go.Proofs.Ytedkcnphplpacaa
open Go.RowKit
attribute [local go_sem] sgA_g0 sgA_g1 sgA_g2 sgA_g3 sgA_g4 sgA_g5 sgA_g6 sgA_g7 sgA_g8 sgA_g9 sgA_g10 sgA_g11 sgA_g12 sgA_g13 sgA_g14 sgA_g15 sgA_g16

theorem err_fld {l : List Sg} {i : Nat} (h : fldE (l.getD i zS) ≠ 0) : errG l i = fldE (l.getD i zS) := by
  unfold errG noteE
  unfold fldE at h ⊢
  generalize l.getD i zS = s at *
  by_cases h1 : s.kind ≠ 4
  · rw [if_pos h1, if_pos h1]
  · rw [if_neg h1] at h ⊢
    rw [if_neg h1]
    by_cases h2 : badRange s
    · rw [if_pos h2, if_pos h2]
    · rw [if_neg h2] at h; exact absurd rfl h
theorem frm_eq {l : List Sg} {i : Nat} {s : Sg} (hs : l.getD i zS = s) (hl : s.last = lastB l i) : (formB i s || (formC l i s || (formD l i s || formE l i s))) = !(frmP l i) := by
  unfold formB formC formD formE frmP obP stP rtP
  rw [hs, hl]
  generalize l.getD (i + 1) zS = nx
  generalize l.getD (i - 1) zS = pv
  generalize (l.getD 0 zS).stem = s0
  generalize lastB l i = lb
  by_cases h0 : i = 0
  · subst h0
    cases s.obl <;> cases lb <;> cases nx.obl <;> cases decide (s.place ≤ nx.place) <;> simp
  · rw [decide_eq_false h0, decide_eq_true (show 0 < i by omega)]
    have e3 : decide (i = 1) = !(decide (1 < i)) := by
      by_cases h1 : i = 1
      · subst h1; rfl
      · rw [decide_eq_false h1, decide_eq_true (show 1 < i by omega)]; rfl
    rw [e3]
    have n1 : (s.stem != 3) = !(s.stem == 3) := rfl
    have n2 : (s0 != 1) = !(s0 == 1) := rfl
    rw [n1, n2]
    generalize (s.stem == 1) = c1
    generalize (s.stem == 2) = c2
    generalize (s.stem == 3) = c3
    generalize (s0 == 1) = c4
    generalize decide (1 < i) = c5
    generalize (s.place == pv.place) = c6
    generalize decide (s.place ≤ nx.place) = c7
    generalize nx.obl = c8
    generalize s.obl = c9
    cases c1 <;> cases c2 <;> cases c3 <;> cases c4 <;> cases c5 <;> cases c6 <;> cases c7 <;> cases c8 <;> cases c9 <;> cases lb <;> rfl
theorem err_form {l : List Sg} {i : Nat} {s : Sg} (hs : l.getD i zS = s) (h : fldE s = 0) : errG l i = if ((s.last != lastB l i) || (!(sgE s (bareS s)) || !(frmP l i))) = true then 3 else 0 := by
  unfold errG
  rw [hs]
  have h1 : ¬ s.kind ≠ 4 := fun g => by unfold fldE at h; rw [if_pos g] at h; cases h
  have h2 : ¬ badRange s := fun g => by unfold fldE at h; rw [if_neg h1, if_pos g] at h; cases h
  rw [note_rest h1 h2]
  by_cases hl : s.last = lastB l i
  · have hA : formA l i s = !(sgE s (bareS s)) := by unfold formA; rw [hl]; simp
    have hF := frm_eq hs hl
    have hl1 : (s.last != lastB l i) = false := by simp [hl]
    rw [hA, hl1, Bool.false_or, ← hF]
    generalize (!(sgE s (bareS s))) = c0
    generalize formB i s = c1
    generalize formC l i s = c2
    generalize formD l i s = c3
    generalize formE l i s = c4
    cases c0 <;> cases c1 <;> cases c2 <;> cases c3 <;> cases c4 <;> rfl
  · have hl1 : (s.last != lastB l i) = true := by simpa using hl
    have hA : formA l i s = true := by unfold formA; rw [hl1]; rfl
    rw [hA, hl1, if_pos rfl]; rfl

set_option maxRecDepth 100000 in
set_option maxHeartbeats 8000000 in
theorem pchk_any (l : List Sg) (hm : l.length ≤ 1000) (p : Option Addr) (cap : Nat) (w : World) (h : SlP w 17 p l.length cap (flatG l)) :
    Calls Try.prog 15 #[.slice p l.length cap] w fun e w' => e = .returned (.tuple #[.int .i64 (chkG l).1, .int .i64 (chkG l).2]) ∧ Below w.heap.size w w' := by
  have f1 := h.fit
  have f2 := h.max
  have SZ := Lib.hid (fun W => psize_any (l.length : Int) W)
  unfold sizeOk at SZ
  by_cases hq : 2 ≤ l.length ∧ l.length ≤ 12
  · rw [decide_eq_true (show 2 ≤ (l.length : Int) ∧ (l.length : Int) ≤ 12 by omega)] at SZ
    have HH := Lib.hid (fun j hj he hb => chk_hit (l := l) hq (j := j) hj he hb)
    have HO := Lib.hid (fun hb => chk_ok (l := l) hq hb)
    have E1 := Lib.hid (fun i (h : fldE (l.getD i zS) ≠ 0) => err_fld (l := l) (i := i) h)
    have E2 := Lib.hid (fun i s hs h => err_form (l := l) (i := i) (s := s) hs h)
    have FR1 := Lib.hid (fun i hi hnx W (b : Below w.heap.size w W) => pfrm_any l i hi hm hnx p cap W (h.later b))
    have HL := Lib.hid h
    have x1 : IntKind.i64.wrap ((l.length : Int) - 1) = (l.length : Int) - 1 := IntWalk.i64_in _ (by omega)
    clear h hq
    generalize chkG l = R at *
    generalize errG l = E at *
    obtain ⟨r1, r2⟩ := R
    go_enter Try.func15, Try.ntmps15
    go_wp2_with fail
    refine (SZ.out _).mono ?_
    rintro e w0 ⟨rfl, rfl⟩
    clear SZ
    go_wp2_with fail
    go_loopw [13] (fun s13 wr => ∃ k : Nat, k ≤ l.length ∧ s13 = .int .i64 k ∧ Hid (∀ j, j < k → E j = 0) ∧ Hid (Below w0.heap.size w0 wr)) (fun s13 _ => l.length - (intOf s13).toNat)
    case atStart => exact ⟨0, by omega, rfl, Lib.hid (fun j hj => by omega), Lib.hid (w_refl w0)⟩
    case round =>
      rename World => wr
      obtain ⟨k, hk, rfl, hall, hbr⟩ := hrel
      by_cases hlt : k < l.length
      · have hlt' : (k : Int) < l.length := by omega
        have hk0 : (0 : Int) ≤ k := by omega
        obtain ⟨b, off, hpp, _, hs⟩ := (HL.out.later hbr.out).sg (sg_some hlt)
        obtain ⟨s, hse⟩ : ∃ s, l.getD k zS = s := ⟨_, rfl⟩
        rw [hse] at hs
        have EF := Lib.hid (E1.out k)
        rw [hse] at EF
        have EG := Lib.hid (E2.out k s hse)
        have HS := Lib.hid hs
        have FY := Lib.hid (show Below w0.heap.size w0 (wr.alloc (sgO s)) ∧ HoldsB (wr.alloc (sgO s)) wr.heap.size 30 (sgA s) from ⟨w_alloc hbr.out _, sg_new wr s⟩)
        have FL := Lib.hid (fun W => pfld_any s W)
        have HB0 := Lib.hid (show SgAt (wr.alloc (sgO s)) wr.heap.size 0 s from (sg_new wr s).sg)
        clear E1 E2 hs
        by_cases hf : fldE s = 0
        · rw [hf] at FL
          have EK := Lib.hid (EG.out hf)
          have hlb : ((k : Int) == (l.length : Int) - 1) = lastB l k := by
            unfold lastB
            by_cases e : k + 1 = l.length
            · rw [decide_eq_true e]; simp; omega
            · rw [decide_eq_false e]; simp; omega
          have FR0 := Lib.hid (FR1.out k hlt)
          rw [hse] at FR0
          have hnx := Lib.hid (show s.last = lastB l k → s.last = true ∨ k + 1 < l.length from fun g => by
            rw [g]; unfold lastB
            by_cases e : k + 1 = l.length
            · left; exact decide_eq_true e
            · right; omega)
          clear EF EG hf FR1 hse
          generalize lastB l k = LB at *
          generalize frmP l k = FM at *
          have BA := Lib.hid (fun W => ponly_any s W)
          have hneq := fun W => sg_neq s (bareS s) W
          have hgrd := fun x y W => sg_guard BinOp.neq x y s (bareS s) W
          obtain ⟨X, hX⟩ : ∃ X, ((s.last != LB) || (!(sgE s (bareS s)) || !FM)) = X := ⟨_, rfl⟩
          rw [hX] at EK
          subst hpp
          go_wp2_with (first | (refine wl_load b (off + k * 17) s (by kernel_rfl) HS.out ?_) | (refine wl_load wr.heap.size 0 s (by kernel_rfl) HB0.out ?_) | (refine wl_store0 wr.heap.size _ s rfl (by kernel_rfl) (by kernel_rfl) rfl ?_) | fail)
          refine (FL.out _).mono ?_
          rintro e wa ⟨rfl, hb⟩
          replace FY := Lib.hid (show Below w0.heap.size w0 wa ∧ HoldsB wa wr.heap.size 30 (sgA s) from ⟨w_below FY.out.1 hb, FY.out.2.later hb⟩)
          clear hb FL HS HB0
          go_wp2_with fail
          go_cut [43] (fun s43 wx => s43 = .bool X ∧ Hid (Below w0.heap.size w0 wx))
          case first =>
            clear EK HH HO hall hbr
            by_cases hq : s.last = LB
            · have hq1 : (s.last != LB) = false := by simp [hq]
              have hq2 : (s.last == LB) = true := by simp [hq]
              have FR := Lib.hid (FR0.out (hnx.out hq))
              rw [hq1] at hX
              generalize hp9 : (some ⟨b, off, none⟩ : Option Addr) = p at *
              clear FR0 hnx hq
              cases hbar : sgE s (bareS s) with
              | false =>
                rw [hbar] at hneq hX
                have hX2 : X = true := hX.symm
                clear FR hX hbar
                refine wp_region_held (S := (fun W => W.cell? ⟨wr.heap.size, 7, none⟩ = some (.bool s.last) ∧ SgAt W wr.heap.size 0 s)) (by kernel_rfl) ?_
                change wpAnyH _ _ _ _ _ _ _ _ (World.drew _)
                have FX := Lib.hid (show Below w0.heap.size w0 (World.drew wa) ∧ HoldsB (World.drew wa) wr.heap.size 30 (sgA s) from ⟨FY.out.1.drew, FY.out.2.later (w_refl _).drew⟩)
                clear FY
                generalize World.drew wa = y at *
                refine wpAnyH_take (i := 0) (v := .pointer (some ⟨wr.heap.size, 7, none⟩)) rfl (by kernel_rfl) (by kernel_rfl) (by kernel_rfl) (fun _ _ _ h => h) (Or.inl ⟨by kernel_rfl, fun _ _ => by go_simp⟩) ⟨FX.out.2.cell (j := 7) rfl, FX.out.2.sg⟩ ?_
                refine wpAnyH_take (i := 1) (v := .bool s.last) rfl (by kernel_rfl) (by kernel_rfl) (by kernel_rfl) (fun _ _ _ h => h) (Or.inl ⟨by kernel_rfl, fun W hW => by (obtain ⟨c7, _⟩ := hW; go_simp)⟩) ⟨FX.out.2.cell (j := 7) rfl, FX.out.2.sg⟩ ?_
                refine wpAnyH_take (i := 2) (v := .int .i64 (k : Int)) rfl (by kernel_rfl) (by kernel_rfl) (by kernel_rfl) (fun _ _ _ h => h) (Or.inl ⟨by kernel_rfl, fun _ _ => by go_simp⟩) ⟨FX.out.2.cell (j := 7) rfl, FX.out.2.sg⟩ ?_
                refine wpAnyH_take (i := 3) (v := .slice p l.length cap) rfl (by kernel_rfl) (by kernel_rfl) (by kernel_rfl) (fun _ _ _ h => h) (Or.inl ⟨by kernel_rfl, fun _ _ => by go_simp⟩) ⟨FX.out.2.cell (j := 7) rfl, FX.out.2.sg⟩ ?_
                refine wpAnyH_take (i := 4) (v := .int .i64 (l.length : Int)) rfl (by kernel_rfl) (by kernel_rfl) (by kernel_rfl) (fun _ _ _ h => h) (Or.inl ⟨by kernel_rfl, fun _ _ => by go_simp⟩) ⟨FX.out.2.cell (j := 7) rfl, FX.out.2.sg⟩ ?_
                refine wpAnyH_take (i := 5) (v := .int .i64 ((l.length : Int) - 1)) rfl (by kernel_rfl) (by kernel_rfl) (by kernel_rfl) (fun _ _ _ h => h) (Or.inl ⟨by kernel_rfl, fun _ _ => by go_simp⟩) ⟨FX.out.2.cell (j := 7) rfl, FX.out.2.sg⟩ ?_
                refine wpAnyH_take (i := 6) (v := .bool LB) rfl (by kernel_rfl) (by kernel_rfl) (by kernel_rfl) (fun _ _ _ h => h) (Or.inl ⟨by kernel_rfl, fun _ _ => by go_simp⟩) ⟨FX.out.2.cell (j := 7) rfl, FX.out.2.sg⟩ ?_
                refine wpAnyH_take (i := 7) (v := .bool false) rfl (by kernel_rfl) (by kernel_rfl) (by kernel_rfl) (fun _ _ _ h => h) (Or.inl ⟨by kernel_rfl, fun _ _ => by go_simp⟩) ⟨FX.out.2.cell (j := 7) rfl, FX.out.2.sg⟩ ?_
                refine wpAnyH_take (i := 8) (v := .bool false) rfl (by kernel_rfl) (by kernel_rfl) (by kernel_rfl) (fun _ _ _ h => h) (Or.inl ⟨by kernel_rfl, fun _ _ => by go_simp⟩) ⟨FX.out.2.cell (j := 7) rfl, FX.out.2.sg⟩ ?_
                refine wpAnyH_take (i := 9) (v := sgv s) rfl (by kernel_rfl) (by kernel_rfl) (by kernel_rfl) (fun _ _ _ h => h) (sg_yields (.tmp 5) wr.heap.size 0 s (by kernel_rfl) rfl (by kernel_rfl) (fun _ h => h.2)) ⟨FX.out.2.cell (j := 7) rfl, FX.out.2.sg⟩ ?_
                refine wpAnyH_take (i := 10) (v := sgv s) rfl (by kernel_rfl) (by kernel_rfl) (by kernel_rfl) (fun _ _ _ h => h) (sg_yields (.tmp 5) wr.heap.size 0 s (by kernel_rfl) rfl (by kernel_rfl) (fun _ h => h.2)) ⟨FX.out.2.cell (j := 7) rfl, FX.out.2.sg⟩ ?_
                refine wpAnyH_ready (rs := [11]) (by kernel_rfl) (by simp) ?_
                refine AllReadyH.cons rfl (fun K hK => ?_) AllReadyH.nil
                rw [if_pos (by kernel_rfl)]
                go_simp
                go_at_call 40
                refine (BA.out _).mono ?_
                rintro e wn ⟨rfl, hb⟩
                replace FX := Lib.hid (show _ ∧ _ from ⟨w_below FX.out.1 hb, FX.out.2.later hb⟩)
                clear hb BA
                go_simp
                refine hK.out _ _ ⟨FX.out.2.cell (j := 7) rfl, FX.out.2.sg⟩ (fun _ => ?_)
                clear hK K
                refine wpAnyH_take (i := 12) (v := .bool true) rfl (by kernel_rfl) (by kernel_rfl) (by kernel_rfl) (fun _ _ _ h => h) (Or.inl ⟨by kernel_rfl, fun _ _ => by go_simp⟩) ⟨FX.out.2.cell (j := 7) rfl, FX.out.2.sg⟩ ?_
                refine wpAnyH_take (i := 13) (v := .bool true) rfl (by kernel_rfl) (by kernel_rfl) (by kernel_rfl) (fun _ _ _ h => h) (Or.inl ⟨by kernel_rfl, fun _ _ => by go_simp⟩) ⟨FX.out.2.cell (j := 7) rfl, FX.out.2.sg⟩ ?_
                refine wpAnyH_take (i := 14) (v := .bool true) rfl (by kernel_rfl) (by kernel_rfl) (by kernel_rfl) (fun _ _ _ h => h) (Or.inl ⟨by kernel_rfl, fun _ _ => by go_simp⟩) ⟨FX.out.2.cell (j := 7) rfl, FX.out.2.sg⟩ ?_
                refine wpAnyH_take (i := 15) (v := undef) rfl (by kernel_rfl) (by kernel_rfl) (by kernel_rfl) (fun _ _ _ h => h) (Or.inr ⟨by kernel_rfl, rfl⟩) ⟨FX.out.2.cell (j := 7) rfl, FX.out.2.sg⟩ ?_
                refine wpAnyH_take (i := 16) (v := undef) rfl (by kernel_rfl) (by kernel_rfl) (by kernel_rfl) (fun _ _ _ h => h) (Or.inr ⟨by kernel_rfl, rfl⟩) ⟨FX.out.2.cell (j := 7) rfl, FX.out.2.sg⟩ ?_
                refine wpAnyH_take (i := 17) (v := undef) rfl (by kernel_rfl) (by kernel_rfl) (by kernel_rfl) (fun _ _ _ h => h) (Or.inr ⟨by kernel_rfl, rfl⟩) ⟨FX.out.2.cell (j := 7) rfl, FX.out.2.sg⟩ ?_
                refine wpAnyH_take (i := 18) (v := undef) rfl (by kernel_rfl) (by kernel_rfl) (by kernel_rfl) (fun _ _ _ h => h) (Or.inr ⟨by kernel_rfl, rfl⟩) ⟨FX.out.2.cell (j := 7) rfl, FX.out.2.sg⟩ ?_
                refine wpAnyH_take (i := 19) (v := .bool true) rfl (by kernel_rfl) (by kernel_rfl) (by kernel_rfl) (fun _ _ _ h => h) (Or.inl ⟨by kernel_rfl, fun _ _ => by go_simp⟩) ⟨FX.out.2.cell (j := 7) rfl, FX.out.2.sg⟩ ?_
                refine wpAnyH_done (by kernel_rfl) ?_ _
                go_wp2_with fail
                simp only [Act.put, List.getElem_toArray, List.getElem_cons_succ, List.getElem_cons_zero, List.setIfInBounds_toArray, List.set_cons_succ, List.set_cons_zero]
                go_meet
                exact ⟨by rw [hX2], Lib.hid FX.out.1⟩
              | true =>
                rw [hbar] at hneq hX
                have hX2 : X = !FM := by rw [← hX]; rfl
                clear hX hbar
                refine wp_region_held (S := (fun W => W.cell? ⟨wr.heap.size, 7, none⟩ = some (.bool s.last) ∧ SgAt W wr.heap.size 0 s)) (by kernel_rfl) ?_
                change wpAnyH _ _ _ _ _ _ _ _ (World.drew _)
                have FX := Lib.hid (show Below w0.heap.size w0 (World.drew wa) ∧ HoldsB (World.drew wa) wr.heap.size 30 (sgA s) from ⟨FY.out.1.drew, FY.out.2.later (w_refl _).drew⟩)
                clear FY
                generalize World.drew wa = y at *
                refine wpAnyH_take (i := 0) (v := .pointer (some ⟨wr.heap.size, 7, none⟩)) rfl (by kernel_rfl) (by kernel_rfl) (by kernel_rfl) (fun _ _ _ h => h) (Or.inl ⟨by kernel_rfl, fun _ _ => by go_simp⟩) ⟨FX.out.2.cell (j := 7) rfl, FX.out.2.sg⟩ ?_
                refine wpAnyH_take (i := 1) (v := .bool s.last) rfl (by kernel_rfl) (by kernel_rfl) (by kernel_rfl) (fun _ _ _ h => h) (Or.inl ⟨by kernel_rfl, fun W hW => by (obtain ⟨c7, _⟩ := hW; go_simp)⟩) ⟨FX.out.2.cell (j := 7) rfl, FX.out.2.sg⟩ ?_
                refine wpAnyH_take (i := 2) (v := .int .i64 (k : Int)) rfl (by kernel_rfl) (by kernel_rfl) (by kernel_rfl) (fun _ _ _ h => h) (Or.inl ⟨by kernel_rfl, fun _ _ => by go_simp⟩) ⟨FX.out.2.cell (j := 7) rfl, FX.out.2.sg⟩ ?_
                refine wpAnyH_take (i := 3) (v := .slice p l.length cap) rfl (by kernel_rfl) (by kernel_rfl) (by kernel_rfl) (fun _ _ _ h => h) (Or.inl ⟨by kernel_rfl, fun _ _ => by go_simp⟩) ⟨FX.out.2.cell (j := 7) rfl, FX.out.2.sg⟩ ?_
                refine wpAnyH_take (i := 4) (v := .int .i64 (l.length : Int)) rfl (by kernel_rfl) (by kernel_rfl) (by kernel_rfl) (fun _ _ _ h => h) (Or.inl ⟨by kernel_rfl, fun _ _ => by go_simp⟩) ⟨FX.out.2.cell (j := 7) rfl, FX.out.2.sg⟩ ?_
                refine wpAnyH_take (i := 5) (v := .int .i64 ((l.length : Int) - 1)) rfl (by kernel_rfl) (by kernel_rfl) (by kernel_rfl) (fun _ _ _ h => h) (Or.inl ⟨by kernel_rfl, fun _ _ => by go_simp⟩) ⟨FX.out.2.cell (j := 7) rfl, FX.out.2.sg⟩ ?_
                refine wpAnyH_take (i := 6) (v := .bool LB) rfl (by kernel_rfl) (by kernel_rfl) (by kernel_rfl) (fun _ _ _ h => h) (Or.inl ⟨by kernel_rfl, fun _ _ => by go_simp⟩) ⟨FX.out.2.cell (j := 7) rfl, FX.out.2.sg⟩ ?_
                refine wpAnyH_take (i := 7) (v := .bool false) rfl (by kernel_rfl) (by kernel_rfl) (by kernel_rfl) (fun _ _ _ h => h) (Or.inl ⟨by kernel_rfl, fun _ _ => by go_simp⟩) ⟨FX.out.2.cell (j := 7) rfl, FX.out.2.sg⟩ ?_
                refine wpAnyH_take (i := 8) (v := .bool false) rfl (by kernel_rfl) (by kernel_rfl) (by kernel_rfl) (fun _ _ _ h => h) (Or.inl ⟨by kernel_rfl, fun _ _ => by go_simp⟩) ⟨FX.out.2.cell (j := 7) rfl, FX.out.2.sg⟩ ?_
                refine wpAnyH_take (i := 9) (v := sgv s) rfl (by kernel_rfl) (by kernel_rfl) (by kernel_rfl) (fun _ _ _ h => h) (sg_yields (.tmp 5) wr.heap.size 0 s (by kernel_rfl) rfl (by kernel_rfl) (fun _ h => h.2)) ⟨FX.out.2.cell (j := 7) rfl, FX.out.2.sg⟩ ?_
                refine wpAnyH_take (i := 10) (v := sgv s) rfl (by kernel_rfl) (by kernel_rfl) (by kernel_rfl) (fun _ _ _ h => h) (sg_yields (.tmp 5) wr.heap.size 0 s (by kernel_rfl) rfl (by kernel_rfl) (fun _ h => h.2)) ⟨FX.out.2.cell (j := 7) rfl, FX.out.2.sg⟩ ?_
                refine wpAnyH_ready (rs := [11]) (by kernel_rfl) (by simp) ?_
                refine AllReadyH.cons rfl (fun K hK => ?_) AllReadyH.nil
                rw [if_pos (by kernel_rfl)]
                go_simp
                go_at_call 40
                refine (BA.out _).mono ?_
                rintro e wn ⟨rfl, hb⟩
                replace FX := Lib.hid (show _ ∧ _ from ⟨w_below FX.out.1 hb, FX.out.2.later hb⟩)
                clear hb BA
                go_simp
                refine hK.out _ _ ⟨FX.out.2.cell (j := 7) rfl, FX.out.2.sg⟩ (fun _ => ?_)
                clear hK K
                refine wpAnyH_take (i := 12) (v := .bool false) rfl (by kernel_rfl) (by kernel_rfl) (by kernel_rfl) (fun _ _ _ h => h) (Or.inl ⟨by kernel_rfl, fun _ _ => by go_simp⟩) ⟨FX.out.2.cell (j := 7) rfl, FX.out.2.sg⟩ ?_
                refine wpAnyH_take (i := 13) (v := .bool false) rfl (by kernel_rfl) (by kernel_rfl) (by kernel_rfl) (fun _ _ _ h => h) (Or.inl ⟨by kernel_rfl, fun _ _ => by go_simp⟩) ⟨FX.out.2.cell (j := 7) rfl, FX.out.2.sg⟩ ?_
                refine wpAnyH_take (i := 14) (v := .bool false) rfl (by kernel_rfl) (by kernel_rfl) (by kernel_rfl) (fun _ _ _ h => h) (Or.inl ⟨by kernel_rfl, fun _ _ => by go_simp⟩) ⟨FX.out.2.cell (j := 7) rfl, FX.out.2.sg⟩ ?_
                refine wpAnyH_take (i := 15) (v := .slice p l.length cap) rfl (by kernel_rfl) (by kernel_rfl) (by kernel_rfl) (fun _ _ _ h => h) (Or.inl ⟨by kernel_rfl, fun _ _ => by go_simp⟩) ⟨FX.out.2.cell (j := 7) rfl, FX.out.2.sg⟩ ?_
                refine wpAnyH_take (i := 16) (v := .int .i64 (k : Int)) rfl (by kernel_rfl) (by kernel_rfl) (by kernel_rfl) (fun _ _ _ h => h) (Or.inl ⟨by kernel_rfl, fun _ _ => by go_simp⟩) ⟨FX.out.2.cell (j := 7) rfl, FX.out.2.sg⟩ ?_
                refine wpAnyH_ready (rs := [17]) (by kernel_rfl) (by simp) ?_
                refine AllReadyH.cons rfl (fun K hK => ?_) AllReadyH.nil
                rw [if_pos (by kernel_rfl)]
                go_simp
                go_at_call 41
                refine (FR.out _ FX.out.1).mono ?_
                rintro e wn ⟨rfl, hb⟩
                replace FX := Lib.hid (show _ ∧ _ from ⟨w_below FX.out.1 hb, FX.out.2.later hb⟩)
                clear hb FR
                go_simp
                refine hK.out _ _ ⟨FX.out.2.cell (j := 7) rfl, FX.out.2.sg⟩ (fun _ => ?_)
                clear hK K
                refine wpAnyH_take (i := 18) (v := .bool (!FM)) rfl (by kernel_rfl) (by kernel_rfl) (by kernel_rfl) (fun _ _ _ h => h) (Or.inl ⟨by kernel_rfl, fun _ _ => by go_simp⟩) ⟨FX.out.2.cell (j := 7) rfl, FX.out.2.sg⟩ ?_
                refine wpAnyH_take (i := 19) (v := .bool (!FM)) rfl (by kernel_rfl) (by kernel_rfl) (by kernel_rfl) (fun _ _ _ h => h) (Or.inl ⟨by kernel_rfl, fun _ _ => by go_simp⟩) ⟨FX.out.2.cell (j := 7) rfl, FX.out.2.sg⟩ ?_
                refine wpAnyH_done (by kernel_rfl) ?_ _
                go_wp2_with fail
                simp only [Act.put, List.getElem_toArray, List.getElem_cons_succ, List.getElem_cons_zero, List.setIfInBounds_toArray, List.set_cons_succ, List.set_cons_zero]
                go_meet
                exact ⟨by rw [hX2], Lib.hid FX.out.1⟩
            · have hq1 : (s.last != LB) = true := by simpa using hq
              have hq2 : (s.last == LB) = false := by simpa using hq
              have hX2 : X = true := by rw [← hX, hq1]; rfl
              have k7 := FY.out.2.cell (j := 7) rfl
              clear hneq hgrd BA FR0 hnx hX
              go_quiet (fail)
              go_wp2_with fail
              go_meet
              exact ⟨by rw [hX2], Lib.hid (FY.out.1.trans ⟨rfl, rfl, rfl, Nat.le_refl _, fun _ _ => rfl⟩)⟩
          case rest =>
            obtain ⟨rfl, hb⟩ := hcut
            clear FR0 hnx hX FY BA hneq hgrd hbr
            cases X with
            | true =>
              have hEk : E k = 3 := by rw [EK.out, if_pos rfl]
              have hf := HH.out k hlt (by rw [hEk]; decide) hall.out
              have hfin := Lib.hid (show Ending.returned (Value.tuple #[.int .i64 r1, .int .i64 r2]) = .returned (.tuple #[.int .i64 3, .int .i64 (k : Int)]) by
                rw [Prod.mk.injEq] at hf; rw [hf.1, hf.2, hEk])
              clear HH HO hall hf EK hEk
              go_wp2_with fail
              go_ret2
              exact ⟨hfin.out.symm, hb.out⟩
            | false =>
              have hEk : E k = 0 := by rw [EK.out, if_neg (by decide)]
              have hall2 := Lib.hid (show ∀ j, j < k + 1 → E j = 0 from fun j hj => by
                by_cases e : j = k
                · rw [e]; exact hEk
                · exact hall.out j (by omega))
              clear HH HO hall EK hEk
              go_wp2_with fail
              go_roundw
              case rel => exact ⟨k + 1, by omega, by go_num, hall2, hb⟩
              case measure => simp [intOf]; omega
        · have hEk := EF.out hf
          have hfh := HH.out k hlt (by rw [hEk]; exact hf) hall.out
          have hfin := Lib.hid (show Ending.returned (Value.tuple #[.int .i64 r1, .int .i64 r2]) = .returned (.tuple #[.int .i64 (fldE s), .int .i64 (k : Int)]) by
            rw [Prod.mk.injEq] at hfh; rw [hfh.1, hfh.2, hEk])
          have e1 : (fldE s == 0) = false := beq_eq_false_iff_ne.2 hf
          have e2 : (fldE s != 0) = true := by simp [hf]
          clear EF EG HH HO hall hfh hEk FR1 hse hf
          generalize fldE s = fe at *
          subst hpp
          go_wp2_with (first | (refine wl_load b (off + k * 17) s (by kernel_rfl) HS.out ?_) | (refine wl_load wr.heap.size 0 s (by kernel_rfl) HB0.out ?_) | (refine wl_store0 wr.heap.size _ s rfl (by kernel_rfl) (by kernel_rfl) rfl ?_) | fail)
          refine (FL.out _).mono ?_
          rintro e wa ⟨rfl, hb⟩
          replace FY := Lib.hid (w_below FY.out.1 hb)
          clear hb FL HS HB0
          go_wp2_with fail
          go_ret2
          exact ⟨hfin.out.symm, FY.out⟩
      · have hlt' : ¬ (k : Int) < l.length := by omega
        have hf := HO.out (fun j hj => hall.out j (by omega))
        have hfin := Lib.hid (show Ending.returned (Value.tuple #[.int .i64 r1, .int .i64 r2]) = .returned (.tuple #[.int .i64 0, .int .i64 0]) by
          rw [Prod.mk.injEq] at hf; rw [hf.1, hf.2]; rfl)
        clear E1 E2 FR1 HH HO hall hf
        go_wp2_with fail
        go_ret2
        exact ⟨hfin.out.symm, hbr.out⟩
  · rw [decide_eq_false (show ¬ (2 ≤ (l.length : Int) ∧ (l.length : Int) ≤ 12) by omega)] at SZ
    rw [chk_full hq]
    clear hq h
    go_enter Try.func15, Try.ntmps15
    go_wp2_with fail
    refine (SZ.out _).mono ?_
    rintro e w0 ⟨rfl, rfl⟩
    go_wp2_with fail
    go_ret2
    exact ⟨rfl, w_refl _⟩

end Go.Proofs.Ytedkcnphplpacaa
