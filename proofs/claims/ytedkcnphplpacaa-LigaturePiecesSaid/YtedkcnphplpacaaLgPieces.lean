/- LigaturePieces returns true. -/
import Derived.Test.YtedkcnphplpacaaLgPieM
import Derived.Test.YtedkcnphplpacaaLgAllows
namespace Go.Proofs.Ytedkcnphplpacaa
open Go.RowKit

abbrev tabP : List Int := [3, 2, 4, 3, 4, 5]
set_option maxRecDepth 100000 in
set_option maxHeartbeats 4000000 in
theorem lpieces_any (nums values : List Int) (hz : ∀ z ∈ nums, -9223372036854775808 ≤ z ∧ z ≤ 9223372036854775807) (hzv : ∀ z ∈ values, -9223372036854775808 ≤ z ∧ z ≤ 9223372036854775807) (p q : Option Addr) (cp cq : Nat) (w : World) (hp : SlP w 1 p nums.length cp (ints nums)) (hq : SlP w 1 q values.length cq (ints values)) :
    Calls Try.prog 9 #[.slice p nums.length cp, .slice q values.length cq] w fun e w' => e = .returned (.bool true) ∧ Below w.heap.size w w' := by
  obtain ⟨i0, hi0, hz0, hz1, hz2⟩ := info_parts info_int
  have PA := Lib.hid (path_any nums hz p cp w hp)
  have hPO := pathG_ok nums
  have AW := Lib.hid (fun W => lawake_any W)
  generalize pathG nums = P at *
  by_cases h2 : 2 ≤ P.length
  · have h2' : ¬ (P.length : Int) < 2 := by omega
    have h8 := hPO.len
    have hask : askE P (tabV tabP values 6 P.length) = 0 := tab_ask hPO h2 (by decide) (by decide) (by decide)
    have AT := Lib.hid (fun i (hi : i ≤ 1000000) W (b : Below w.heap.size w W) => ats_any q cq values i W (hq.later b) hi)
    have MV := Lib.hid (fun i W => mod_any (values.getD i 0) 6 W (getD_bdsL hzv i).1 (getD_bdsL hzv i).2 (by omega) (by omega))
    have HI := Lib.hid (show ∀ i, ∃ j : Nat, values.getD i 0 % 6 = (j : Int) ∧ j < 6 ∧ tabI tabP values 6 i = tabP.getD j 0 from fun i => by
      have a := Int.emod_nonneg (values.getD i 0) (show (6 : Int) ≠ 0 by omega)
      have b := Int.emod_lt_of_pos (values.getD i 0) (show (0 : Int) < 6 by omega)
      exact ⟨(values.getD i 0 % 6).toNat, by omega, by omega, rfl⟩)
    have HT := Lib.hid (fun k hk => tabV_take tabP values 6 P.length (k := k) hk)
    have hvl := tabV_len tabP values 6 P.length
    generalize tabI tabP values 6 = vf at *
    generalize tabV tabP values 6 P.length = VS at *
    have hb0 : VS.take 0 = [] := rfl
    have HBn := Lib.hid (show VS.take P.length = VS from List.take_of_length_le (by omega))
    have HVL := Lib.hid hvl
    obtain ⟨n, hn⟩ : ∃ n, P.length = n := ⟨_, rfl⟩
    have SP := Lib.hid (show ∀ c1 c2 b d W, SlP W 1 b n c1 (ints P) → SlP W 1 d n c2 (ints VS) → Calls Try.prog 30 #[.slice b n c1, .slice d n c2] W fun e w' => ∃ v, e = .returned (.tuple #[v, .int .i64 0]) ∧ OwnL W w' 3 1 v (splL P VS).length (ints (splL P VS)) from fun c1 c2 b d W h1 h2 =>
      psplit0_any P VS n hn (by omega) (by omega) hask b d c1 c2 W h1 h2 (by omega))
    have RC := Lib.hid (show ∀ i t, i ≤ t → t ≤ n → ∀ {b o d u c1 c2 : Nat} W, SlP W 1 (some ⟨b, o, none⟩) n c1 (ints P) → SlP W 1 (some ⟨d, u, none⟩) n c2 (ints VS) → Calls Try.prog 27 #[.slice (some ⟨b, o + i, none⟩) (t - i : Nat) (c1 - i), .slice (some ⟨d, u + i, none⟩) (t - i : Nat) (c2 - i)] W fun e w' => (∃ x, e = .returned (.tuple #[.bool (CGP P VS i t), .int .i64 x])) ∧ Below W.heap.size W w' from fun i t h1 h2 {b o d u c1 c2} W k1 k2 => by
      have e1 := segI_len P (i := i) (show t ≤ P.length by omega)
      have e2 := segI_len VS (i := i) (show t ≤ VS.length by omega)
      have := rcan_any (segI P i t) (segI VS i t) (some ⟨b, o + i, none⟩) (some ⟨d, u + i, none⟩) (c1 - i) (c2 - i) W (by rw [e1]; exact k1.seg h1 h2) (by rw [e2]; exact k2.seg h1 h2)
      rw [e1, e2] at this
      exact this.mono (fun e w' h => ⟨⟨_, h.1⟩, h.2⟩))
    have HCE := Lib.hid (show ∀ i t, i + 2 ≤ t → t ≤ n → CGP P VS i t = CNP P VS i t from fun i t h1 h2 => cg_eq hask h1 (by omega))
    have PC0 := Lib.hid (show PcI (CNP P VS) n (splL P VS) 0 0 0 from by unfold splL; rw [hn]; exact PcI.start _ _)
    clear hPO hz hzv hp hq hask hvl
    generalize CGP P VS = CG at *
    generalize CNP P VS = CN at *
    generalize splL P VS = L at *
    rw [hn] at h2 h8 h2' HT HBn HVL PA
    go_enter Try.func9, Try.ntmps9
    go_wp2_with fail
    refine PA.out.mono ?_
    rintro e w1 ⟨v, rfl, ho⟩
    obtain ⟨qp, cpp, rfl⟩ := ho.val
    obtain ⟨_, _, e9, hsl⟩ := SlP.of_own ho.row (by rw [← hn]; exact ints_len P) (ints_one P)
    injection e9 with e9 _ e10
    subst e9 e10
    have HP1 := Lib.hid hsl
    have B1 := Lib.hid ho.bel
    clear ho hsl PA hn
    go_wp2_with fail
    go_loopw [6, 7] (fun v i wr => ∃ k : Nat, k ≤ n ∧ i = .int .i64 k ∧ (∃ q c, v = .slice q k c) ∧ Hid (OwnL w1 wr 3 1 v k (ints (VS.take k)))) (fun _ i _ => n - (intOf i).toNat)
    case atStart => exact ⟨0, by omega, rfl, ⟨none, 0, rfl⟩, Lib.hid (by rw [hb0]; exact OwnL.start _ _ _)⟩
    case round =>
      rename World => wr
      clear hb0
      obtain ⟨k, hk, rfl, ⟨x, cqq, rfl⟩, ho⟩ := hrel
      by_cases hlt : k < n
      · have hlt' : (k : Int) < n := by omega
        obtain ⟨j, hj1, hj2, hj3⟩ := HI.out k
        have AT1 := Lib.hid (fun W b => AT.out k (by omega) W b)
        have MV1 := Lib.hid (fun W => MV.out k W)
        rw [hj1] at MV1
        have hE := Lib.hid (show ints (VS.take (k + 1)) = ints (VS.take k) ++ ints [vf k] by rw [HT.out k hlt]; exact List.map_append ..)
        rw [hj3] at hE
        have hj7 : (j : Int) < 6 := by omega
        have hjz : (0 : Int) ≤ j := by omega
        have hBr := Lib.hid (w_alloc (w_below B1.out ho.out.bel) (.cells #[.int .i64 3, .int .i64 2, .int .i64 4, .int .i64 3, .int .i64 4, .int .i64 5] 3))
        have ct := tab_cell (W := wr.alloc (.cells #[.int .i64 3, .int .i64 2, .int .i64 4, .int .i64 3, .int .i64 4, .int .i64 5] 3)) (HoldsB.new wr 3 (ints tabP).toArray) (show j < tabP.length from hj2)
        have hb1 := Lib.hid (w_alloc (w_refl wr) (.cells #[.int .i64 3, .int .i64 2, .int .i64 4, .int .i64 3, .int .i64 4, .int .i64 5] 3))
        generalize tabP.getD j 0 = xv at *
        clear HT HBn AT MV HI hj1 hj3 SP RC HCE PC0
        go_wp2_with fail
        generalize hwl : wr.alloc (.cells #[.int .i64 3, .int .i64 2, .int .i64 4, .int .i64 3, .int .i64 4, .int .i64 5] 3) = wl at *
        clear hwl
        have HO := Lib.hid (ho.out.later (w_alloc hb1.out (.cells #[.int .i64 xv] 3)))
        refine (AT1.out _ hBr.out).mono ?_
        rintro e w2 ⟨rfl, rfl⟩
        go_wp2_with fail
        refine (MV1.out _).mono ?_
        rintro e w2 ⟨rfl, rfl⟩
        clear AT1 MV1
        go_wp2_with (at_builtin; refine wpList_append_own_at _ rfl _ _ 22 rfl w1.heap.size 3 i0 (.int .i64 0) 1 8 Try.underlying22 hi0 hz0 hz1 hz2 rfl (by decide) _ k (ints (VS.take k)) rfl HO.out.row ⟨w2.heap.size, 0, none⟩ 1 1 (ints [xv]) rfl rfl (lit_new _ _ _) (ints_one _) (by unfold maxLen; omega) (by omega) HO.out.bel.size ?_)
        intro v' w3 hown hgrow _ _
        have HN := Lib.hid (show OwnL w1 w3 3 1 v' (k + 1) (ints (VS.take (k + 1))) by
          rw [hE.out]
          exact ho.out.app (w_alloc hb1.out _) (by rw [show ints (VS.take k) = (VS.map (Value.int .i64)).take k from List.map_take ..]; exact hown) hgrow)
        obtain ⟨x2, c2, hv⟩ := HN.out.val
        subst hv
        clear hown hgrow HO ct
        go_wp2_with fail
        go_roundw
        case rel => exact ⟨k + 1, by omega, by go_num, ⟨x2, c2, rfl⟩, HN⟩
        case measure => simp [intOf]; omega
      · obtain rfl : n = k := by omega
        have hlt' : ¬ ((n : Int) < n) := by omega
        obtain ⟨_, _, e9, hsv⟩ := SlP.of_own ho.out.row (by rw [HBn.out, ← HVL.out]; exact ints_len VS) (ints_one _)
        injection e9 with e9 _ e10
        subst e9 e10
        rw [HBn.out] at hsv
        have HV := Lib.hid hsv
        have HPr := Lib.hid (HP1.out.later ho.out.bel)
        have B2 := Lib.hid (w_below B1.out ho.out.bel)
        clear ho hsv HT HBn AT MV HI HP1 B1
        go_wp2_with fail
        refine (SP.out _ _ _ _ _ HPr.out HV.out).mono ?_
        rintro e w4 ⟨v, rfl, hl⟩
        obtain ⟨lp, cl, rfl⟩ := hl.val
        have hLl : 0 < L.length := by
          have := PC0.out
          have e0 : L.length ≠ 0 := fun e => by
            have h9 : PcI CN n L L.length 0 0 := by rw [e]; exact this
            have := h9.end_
            omega
          omega
        obtain ⟨_, _, e9, hsL⟩ := SlP.of_own hl.row (ints_len L) (ints_one _)
        injection e9 with e9 _ e10
        subst e9 e10
        obtain ⟨lb, lo, rfl, -, -⟩ := hsL.at_ hLl
        obtain ⟨pb, po, rfl, -, -⟩ := HPr.out.at_ (by omega)
        obtain ⟨qb, qo, rfl, -, -⟩ := HV.out.at_ (by omega)
        have f1 := HPr.out.fit
        have f2 := HPr.out.max
        have g1 := HV.out.fit
        have g2 := HV.out.max
        have f3 := hsL.fit
        have f4 := hsL.max
        obtain ⟨m, hm⟩ : ∃ m, L.length = m := ⟨_, rfl⟩
        rw [hm] at hsL hLl f3
        have HM := Lib.hid hm
        have FX0 := Lib.hid (show SlP w4 1 (some ⟨pb, po, none⟩) n cpp (ints P) ∧ SlP w4 1 (some ⟨qb, qo, none⟩) n cqq (ints VS) ∧ SlP w4 1 (some ⟨lb, lo, none⟩) m cl (ints L) ∧ Below w.heap.size w w4 from ⟨HPr.out.later hl.bel, HV.out.later hl.bel, hsL, w_below B2.out hl.bel⟩)
        rw [hm]
        clear hm hsL HPr HV B2 SP hl
        go_wp2_with fail
        go_loopw [10, 11, 12] (fun s10 s11 s12 wr => ∃ i a b : Nat, i ≤ m ∧ s10 = .int .i64 (a : Int) ∧ s11 = .int .i64 (b : Int) ∧ s12 = .int .i64 (i : Int) ∧ Hid (PcI CN n L i a b) ∧ Hid (SlP wr 1 (some ⟨pb, po, none⟩) n cpp (ints P) ∧ SlP wr 1 (some ⟨qb, qo, none⟩) n cqq (ints VS) ∧ SlP wr 1 (some ⟨lb, lo, none⟩) m cl (ints L) ∧ Below w.heap.size w wr)) (fun _ _ s12 _ => m - (intOf s12).toNat)
        case atStart => exact ⟨0, 0, 0, by omega, rfl, rfl, rfl, PC0, FX0⟩
        case round =>
          clear PC0 FX0
          rename World => wr
          obtain ⟨i, a, b, hi, rfl, rfl, rfl, hP, hF⟩ := hrel
          by_cases him : i < m
          · have him' : (i : Int) < m := by omega
            have hi0' : (0 : Int) ≤ i := by omega
            obtain ⟨s, s1, s2, s3, s4, s5, s6⟩ := hP.out.step (by rw [HM.out]; exact him)
            have hba := hP.out.lt
            obtain ⟨t, ht⟩ : ∃ t, a + s = t := ⟨_, rfl⟩
            rw [ht] at s3 s4 s5 s6
            have c0 := int_at hF.out.2.2.1 him
            rw [s1] at c0
            have x1 : ¬ (s : Int) < 1 := by omega
            have xs : IntKind.i64.wrap ((n : Int) - a) = ((n - a : Nat) : Int) := by rw [IntWalk.i64_in _ (by omega)]; omega
            have x2 : ¬ ((n - a : Nat) : Int) < (s : Int) := by omega
            have xt : IntKind.i64.wrap ((a : Int) + s) = (t : Int) := by rw [IntWalk.i64_in _ (by omega)]; omega
            have hat : a < t := by omega
            have hbt : b < t := by omega
            have HA := Lib.hid (show 1 < s → CG a t = true from fun h => by rw [HCE.out a t (by omega) s3]; exact s4 h)
            have HJ := Lib.hid (show 0 < i → CG b t = false from fun h => by have := s5 h; rw [HCE.out b t this.1 s3]; exact this.2)
            have HP2 := Lib.hid s6
            have HF0 := Lib.hid (Nat.le_refl 0)
            have RA := Lib.hid (RC.out a t (by omega) s3 (b := pb) (o := po) (d := qb) (u := qo) (c1 := cpp) (c2 := cqq))
            have RB := Lib.hid (RC.out b t (by omega) s3 (b := pb) (o := po) (d := qb) (u := qo) (c1 := cpp) (c2 := cqq))
            have HS1 := Lib.hid s1
            clear s1 s4 s5 s6 hP HCE
            clear RC
            generalize CG a t = A at *
            generalize CG b t = J at *
            go_wp2_with fail
            refine wp_region_held (S := (fun _ => True)) (by kernel_rfl) ?_
            change wpAnyH _ _ _ _ _ _ _ _ (World.drew _)
            have FX := Lib.hid (show SlP (World.drew wr) 1 (some ⟨pb, po, none⟩) n cpp (ints P) ∧ SlP (World.drew wr) 1 (some ⟨qb, qo, none⟩) n cqq (ints VS) ∧ SlP (World.drew wr) 1 (some ⟨lb, lo, none⟩) m cl (ints L) ∧ Below w.heap.size w (World.drew wr) from ⟨hF.out.1.later (w_refl _).drew, hF.out.2.1.later (w_refl _).drew, hF.out.2.2.1.later (w_refl _).drew, w_below hF.out.2.2.2 (w_refl _).drew⟩)
            clear hF
            generalize World.drew wr = y at *
            refine wpAnyH_take (i := 0) (v := .slice (some ⟨pb, po, none⟩) n cpp) rfl (by kernel_rfl) (by kernel_rfl) (by kernel_rfl) (fun _ _ _ h => h) (Or.inl ⟨by kernel_rfl, fun _ _ => by go_simp⟩) trivial ?_
            refine wpAnyH_take (i := 1) (v := .int .i64 (a : Int)) rfl (by kernel_rfl) (by kernel_rfl) (by kernel_rfl) (fun _ _ _ h => h) (Or.inl ⟨by kernel_rfl, fun _ _ => by go_simp⟩) trivial ?_
            refine wpAnyH_take (i := 2) (v := .int .i64 (t : Int)) rfl (by kernel_rfl) (by kernel_rfl) (by kernel_rfl) (fun _ _ _ h => h) (Or.inl ⟨by kernel_rfl, fun _ _ => by go_simp⟩) trivial ?_
            refine wpAnyH_take (i := 3) (v := .slice (some ⟨pb, po + a, none⟩) (t - a) (cpp - a)) rfl (by kernel_rfl) (by kernel_rfl) (by kernel_rfl) (fun _ _ _ h => h) (Or.inl ⟨by kernel_rfl, fun W _ => by go_simp; rw [if_pos (by omega), if_pos (by omega), if_neg (by omega)]⟩) trivial ?_
            refine wpAnyH_take (i := 4) (v := .slice (some ⟨qb, qo, none⟩) n cqq) rfl (by kernel_rfl) (by kernel_rfl) (by kernel_rfl) (fun _ _ _ h => h) (Or.inl ⟨by kernel_rfl, fun _ _ => by go_simp⟩) trivial ?_
            refine wpAnyH_take (i := 5) (v := .int .i64 (a : Int)) rfl (by kernel_rfl) (by kernel_rfl) (by kernel_rfl) (fun _ _ _ h => h) (Or.inl ⟨by kernel_rfl, fun _ _ => by go_simp⟩) trivial ?_
            refine wpAnyH_take (i := 6) (v := .int .i64 (t : Int)) rfl (by kernel_rfl) (by kernel_rfl) (by kernel_rfl) (fun _ _ _ h => h) (Or.inl ⟨by kernel_rfl, fun _ _ => by go_simp⟩) trivial ?_
            refine wpAnyH_take (i := 7) (v := .slice (some ⟨qb, qo + a, none⟩) (t - a) (cqq - a)) rfl (by kernel_rfl) (by kernel_rfl) (by kernel_rfl) (fun _ _ _ h => h) (Or.inl ⟨by kernel_rfl, fun W _ => by go_simp; rw [if_pos (by omega), if_pos (by omega), if_neg (by omega)]⟩) trivial ?_
            refine wpAnyH_ready (rs := [8]) (by kernel_rfl) (by simp) ?_
            refine AllReadyH.cons rfl (fun K hK => ?_) AllReadyH.nil
            rw [if_pos (by kernel_rfl)]
            go_simp
            go_at_call 27
            refine (RA.out _ FX.out.1 FX.out.2.1).mono ?_
            rintro e y2 ⟨⟨ex, rfl⟩, hb⟩
            replace FX := Lib.hid (show SlP y2 1 (some ⟨pb, po, none⟩) n cpp (ints P) ∧ SlP y2 1 (some ⟨qb, qo, none⟩) n cqq (ints VS) ∧ SlP y2 1 (some ⟨lb, lo, none⟩) m cl (ints L) ∧ Below w.heap.size w y2 from ⟨FX.out.1.later hb, FX.out.2.1.later hb, FX.out.2.2.1.later hb, w_below FX.out.2.2.2 hb⟩)
            clear hb
            go_simp
            refine hK.out _ _ trivial (fun _ => ?_)
            clear hK K
            refine wpAnyH_take (i := 9) (v := .tuple #[.bool A, .int .i64 ex]) rfl (by kernel_rfl) (by kernel_rfl) (by kernel_rfl) (fun _ _ _ h => h) (Or.inl ⟨by kernel_rfl, fun _ _ => by go_simp⟩) trivial ?_
            refine wpAnyH_take (i := 10) (v := .bool A) rfl (by kernel_rfl) (by kernel_rfl) (by kernel_rfl) (fun _ _ _ h => h) (Or.inl ⟨by kernel_rfl, fun _ _ => by go_simp⟩) trivial ?_
            refine wpAnyH_take (i := 11) (v := .int .i64 ex) rfl (by kernel_rfl) (by kernel_rfl) (by kernel_rfl) (fun _ _ _ h => h) (Or.inl ⟨by kernel_rfl, fun _ _ => by go_simp⟩) trivial ?_
            refine wpAnyH_take (i := 12) (v := .bool A) rfl (by kernel_rfl) (by kernel_rfl) (by kernel_rfl) (fun _ _ _ h => h) (Or.inl ⟨by kernel_rfl, fun _ _ => by go_simp⟩) trivial ?_
            refine wpAnyH_take (i := 13) (v := .int .i64 ex) rfl (by kernel_rfl) (by kernel_rfl) (by kernel_rfl) (fun _ _ _ h => h) (Or.inl ⟨by kernel_rfl, fun _ _ => by go_simp⟩) trivial ?_
            refine wpAnyH_done (by kernel_rfl) ?_ _
            go_wp2_with fail
            try simp only [Act.put, List.getElem_toArray, List.getElem_cons_succ, List.getElem_cons_zero, List.setIfInBounds_toArray, List.set_cons_succ, List.set_cons_zero]
            have FX0 := FX
            clear FX RA
            refine wp_region_held (S := (fun _ => True)) (by kernel_rfl) ?_
            change wpAnyH _ _ _ _ _ _ _ _ (World.drew _)
            have FX := Lib.hid (show SlP (World.drew y2) 1 (some ⟨pb, po, none⟩) n cpp (ints P) ∧ SlP (World.drew y2) 1 (some ⟨qb, qo, none⟩) n cqq (ints VS) ∧ SlP (World.drew y2) 1 (some ⟨lb, lo, none⟩) m cl (ints L) ∧ Below w.heap.size w (World.drew y2) from ⟨FX0.out.1.later (w_refl _).drew, FX0.out.2.1.later (w_refl _).drew, FX0.out.2.2.1.later (w_refl _).drew, w_below FX0.out.2.2.2 (w_refl _).drew⟩)
            clear FX0
            generalize World.drew y2 = z at *
            refine wpAnyH_take (i := 0) (v := .slice (some ⟨pb, po, none⟩) n cpp) rfl (by kernel_rfl) (by kernel_rfl) (by kernel_rfl) (fun _ _ _ h => h) (Or.inl ⟨by kernel_rfl, fun _ _ => by go_simp⟩) trivial ?_
            refine wpAnyH_take (i := 1) (v := .int .i64 (b : Int)) rfl (by kernel_rfl) (by kernel_rfl) (by kernel_rfl) (fun _ _ _ h => h) (Or.inl ⟨by kernel_rfl, fun _ _ => by go_simp⟩) trivial ?_
            refine wpAnyH_take (i := 2) (v := .int .i64 (t : Int)) rfl (by kernel_rfl) (by kernel_rfl) (by kernel_rfl) (fun _ _ _ h => h) (Or.inl ⟨by kernel_rfl, fun _ _ => by go_simp⟩) trivial ?_
            refine wpAnyH_take (i := 3) (v := .slice (some ⟨pb, po + b, none⟩) (t - b) (cpp - b)) rfl (by kernel_rfl) (by kernel_rfl) (by kernel_rfl) (fun _ _ _ h => h) (Or.inl ⟨by kernel_rfl, fun W _ => by go_simp; rw [if_pos (by omega), if_pos (by omega), if_neg (by omega)]⟩) trivial ?_
            refine wpAnyH_take (i := 4) (v := .slice (some ⟨qb, qo, none⟩) n cqq) rfl (by kernel_rfl) (by kernel_rfl) (by kernel_rfl) (fun _ _ _ h => h) (Or.inl ⟨by kernel_rfl, fun _ _ => by go_simp⟩) trivial ?_
            refine wpAnyH_take (i := 5) (v := .int .i64 (b : Int)) rfl (by kernel_rfl) (by kernel_rfl) (by kernel_rfl) (fun _ _ _ h => h) (Or.inl ⟨by kernel_rfl, fun _ _ => by go_simp⟩) trivial ?_
            refine wpAnyH_take (i := 6) (v := .int .i64 (t : Int)) rfl (by kernel_rfl) (by kernel_rfl) (by kernel_rfl) (fun _ _ _ h => h) (Or.inl ⟨by kernel_rfl, fun _ _ => by go_simp⟩) trivial ?_
            refine wpAnyH_take (i := 7) (v := .slice (some ⟨qb, qo + b, none⟩) (t - b) (cqq - b)) rfl (by kernel_rfl) (by kernel_rfl) (by kernel_rfl) (fun _ _ _ h => h) (Or.inl ⟨by kernel_rfl, fun W _ => by go_simp; rw [if_pos (by omega), if_pos (by omega), if_neg (by omega)]⟩) trivial ?_
            refine wpAnyH_ready (rs := [8]) (by kernel_rfl) (by simp) ?_
            refine AllReadyH.cons rfl (fun K hK => ?_) AllReadyH.nil
            rw [if_pos (by kernel_rfl)]
            go_simp
            go_at_call 27
            refine (RB.out _ FX.out.1 FX.out.2.1).mono ?_
            rintro e z2 ⟨⟨ex, rfl⟩, hb⟩
            replace FX := Lib.hid (show SlP z2 1 (some ⟨pb, po, none⟩) n cpp (ints P) ∧ SlP z2 1 (some ⟨qb, qo, none⟩) n cqq (ints VS) ∧ SlP z2 1 (some ⟨lb, lo, none⟩) m cl (ints L) ∧ Below w.heap.size w z2 from ⟨FX.out.1.later hb, FX.out.2.1.later hb, FX.out.2.2.1.later hb, w_below FX.out.2.2.2 hb⟩)
            clear hb
            go_simp
            refine hK.out _ _ trivial (fun _ => ?_)
            clear hK K
            refine wpAnyH_take (i := 9) (v := .tuple #[.bool J, .int .i64 ex]) rfl (by kernel_rfl) (by kernel_rfl) (by kernel_rfl) (fun _ _ _ h => h) (Or.inl ⟨by kernel_rfl, fun _ _ => by go_simp⟩) trivial ?_
            refine wpAnyH_take (i := 10) (v := .bool J) rfl (by kernel_rfl) (by kernel_rfl) (by kernel_rfl) (fun _ _ _ h => h) (Or.inl ⟨by kernel_rfl, fun _ _ => by go_simp⟩) trivial ?_
            refine wpAnyH_take (i := 11) (v := .int .i64 ex) rfl (by kernel_rfl) (by kernel_rfl) (by kernel_rfl) (fun _ _ _ h => h) (Or.inl ⟨by kernel_rfl, fun _ _ => by go_simp⟩) trivial ?_
            refine wpAnyH_take (i := 12) (v := .bool J) rfl (by kernel_rfl) (by kernel_rfl) (by kernel_rfl) (fun _ _ _ h => h) (Or.inl ⟨by kernel_rfl, fun _ _ => by go_simp⟩) trivial ?_
            refine wpAnyH_take (i := 13) (v := .int .i64 ex) rfl (by kernel_rfl) (by kernel_rfl) (by kernel_rfl) (fun _ _ _ h => h) (Or.inl ⟨by kernel_rfl, fun _ _ => by go_simp⟩) trivial ?_
            refine wpAnyH_done (by kernel_rfl) ?_ _
            have c0 := int_at FX.out.2.2.1 him
            have s1' := HS1.out
            rw [s1'] at c0
            clear s1'
            have HF2 := FX
            clear FX RB
            by_cases hs : 1 < s
            · have hs' : (1 : Int) < s := by omega
              obtain rfl := HA.out hs
              clear HA
              by_cases hi1 : 0 < i
              · have hi1' : (0 : Int) < i := by omega
                obtain rfl := HJ.out hi1
                clear HJ
                go_wp2_with fail
                go_roundw
                case rel => exact ⟨i + 1, t, a, by omega, rfl, rfl, by go_num, HP2, HF2⟩
                case measure => simp [intOf]; omega
              · have hi1' : ¬ (0 : Int) < i := by omega
                clear HJ
                go_wp2_with fail
                go_roundw
                case rel => exact ⟨i + 1, t, a, by omega, rfl, rfl, by go_num, HP2, HF2⟩
                case measure => simp [intOf]; omega
            · have hs' : ¬ (1 : Int) < s := by omega
              clear HA
              by_cases hi1 : 0 < i
              · have hi1' : (0 : Int) < i := by omega
                obtain rfl := HJ.out hi1
                clear HJ
                go_wp2_with fail
                go_roundw
                case rel => exact ⟨i + 1, t, a, by omega, rfl, rfl, by go_num, HP2, HF2⟩
                case measure => simp [intOf]; omega
              · have hi1' : ¬ (0 : Int) < i := by omega
                clear HJ
                go_wp2_with fail
                go_roundw
                case rel => exact ⟨i + 1, t, a, by omega, rfl, rfl, by go_num, HP2, HF2⟩
                case measure => simp [intOf]; omega
          · obtain rfl : m = i := by omega
            have him' : ¬ ((m : Int) < m) := by omega
            have hP2 := hP.out
            have hae : a = n := PcI.end_ (L := L) (by rw [HM.out]; exact hP2)
            subst hae
            have B3 := Lib.hid hF.out.2.2.2
            clear hP2 hP hF RC HCE
            go_wp2_with fail
            refine (AW.out _).mono ?_
            rintro e w6 ⟨rfl, hb⟩
            have B4 := Lib.hid (w_below B3.out hb)
            clear hb AW B3
            go_wp2_with fail
            go_ret
            exact ⟨rfl, B4.out⟩
  · have h2' : (P.length : Int) < 2 := by omega
    clear hPO hz hzv hp hq h2
    go_enter Try.func9, Try.ntmps9
    go_wp2_with fail
    refine PA.out.mono ?_
    rintro e w1 ⟨v, rfl, ho⟩
    obtain ⟨qp, cpp, rfl⟩ := ho.val
    have B1 := Lib.hid ho.bel
    clear ho PA
    go_wp2_with fail
    refine (AW.out _).mono ?_
    rintro e w2 ⟨rfl, hb⟩
    have B2 := Lib.hid (w_below B1.out hb)
    clear hb AW B1
    go_wp2_with fail
    go_ret
    exact ⟨rfl, B2.out⟩

end Go.Proofs.Ytedkcnphplpacaa
