/- The rows behind the first one, of the program. The reference's Text: for every list of rows. The law's own same: two lists of rows that are alike, with their offsets or without. -/
import Derived.Test.YtdmedealdhadcaaGreatDoorG17
import Derived.Test.YtdmedealdhadcaaGreatDoorG16
import Derived.RangeFuncOwn
import Derived.Deep.RegionHeld3

namespace Go.Proofs.YtdmedealdhadcaaGreatDoor
open Go.RowKit
def ByPost (rs : List Rw) (n : Int) (w : World) (e : Ending) (w' : World) : Prop :=
  ∃ a b, e = .returned (.tuple #[a, b, ftV (bodyV n rs [] []).2.2]) ∧ SgO w w' a (bodyV n rs [] []).1 ∧ IntO w w' b (bodyV n rs [] []).2.1
set_option maxRecDepth 100000 in
set_option maxHeartbeats 16000000 in
theorem pbody_any (v : Value) (rs : List Rw) (n : Int) (hm : Modest rs) (hne : ∀ r ∈ rs, 0 < r.words.length) (w : World) (h : RowsV w v rs) (T : TabS w) : Calls Tryz.prog 52 #[v, .int .i64 n] w (ByPost rs n w) := by
  obtain ⟨p, cap, rfl, g1, g2⟩ := rows_nil h
  have F0 := Lib.hid (HoldsB.new w 43 #[.int .i64 0, .int .i64 0])
  have B0 := Lib.hid (w_alloc (w_refl w) (.cells #[.int .i64 0, .int .i64 0] 43))
  have H0 := Lib.hid (h.later (w_alloc (w_refl w) (.cells #[.int .i64 0, .int .i64 0] 43)))
  have T0 := Lib.hid (T.later (w_alloc (w_refl w) (.cells #[.int .i64 0, .int .i64 0] 43)))
  have hr := hm.1
  have HM := Lib.hid hm.2
  have HN := Lib.hid hne
  unfold ByPost
  clear h T hm hne
  generalize hR : bodyV n rs [] [] = R at *
  replace hR := Lib.hid hR
  go_enter Tryz.func52, Tryz.ntmps52
  go_wp2_with fail
  obtain ⟨m6, hm6⟩ : ∃ m6, w.heap.size = m6 := ⟨_, rfl⟩
  rw [hm6] at F0 ⊢
  generalize hw1 : w.alloc (.cells #[.int .i64 0, .int .i64 0] 43) = w1 at *
  have B6 := Lib.hid (show m6 < w1.heap.size by rw [← hw1, ← hm6]; simp)
  replace hm6 := Lib.hid hm6
  clear hw1
  go_loopw [7, 8, 17] (fun v u i wr => ∃ (k : Nat) (zs : List Sg) (us : List Int), k ≤ rs.length ∧ i = .int .i64 k ∧ (∃ q c, v = .slice q zs.length c) ∧ (∃ q c, u = .slice q us.length c) ∧ Hid (bodyV n (rs.drop k) zs us = R) ∧ Hid (zs.length ≤ k * 100000) ∧ Hid (us.length ≤ k * 100000) ∧ Hid (SgO w1 wr v zs) ∧ Hid (IntO w1 wr u us)) (fun _ _ i _ => rs.length - (intOf i).toNat)
  case atStart => exact ⟨0, [], [], by omega, rfl, ⟨none, 0, rfl⟩, ⟨none, 0, rfl⟩, by simpa using hR, Lib.hid (Nat.le_refl _), Lib.hid (Nat.le_refl _), Lib.hid (SgO.start w1), Lib.hid (IntO.none (w_refl w1))⟩
  case round =>
    obtain ⟨k, zs, us, hk, rfl, ⟨q1, a1, rfl⟩, ⟨q2, a2, rfl⟩, hV, hz, hu, hS, hI⟩ := hrel
    by_cases hlt : k < rs.length
    · obtain ⟨b, off, cap', p2, c2, e, _, _, _, r0, r1, hwd⟩ := rows_at H0.out k hlt
      simp only [Value.slice.injEq, true_and] at e
      obtain ⟨rfl, rfl⟩ := e
      have hlt' : (k : Int) < rs.length := by omega
      have hk0 : (0 : Int) ≤ k := by omega
      have hmem := getR_mem hlt
      have hwl := (HM.out _ hmem).1
      have hws := Lib.hid (fun x hx => (HM.out _ hmem).2 x hx)
      have hw0 := HN.out _ hmem
      have hd := drop_getD hlt
      rw [hd] at hV
      have HV := Lib.hid hwd
      have HW := Lib.hid (hwd.later hS.out.bel)
      replace r0 := cell_later hS.out.bel r0
      replace r1 := cell_later hS.out.bel r1
      clear hd hmem hwd
      generalize hr : rs.getD k noRw = r at *
      clear hr
      obtain ⟨ra, ws⟩ := r
      simp only at r0 r1 HW HV hwl hws hw0
      have NB := Lib.hid (HoldsB.new wr 62 #[.int .i64 0, .slice none 0 0])
      have BA := Lib.hid (w_alloc (w_refl wr) (.cells #[.int .i64 0, .slice none 0 0] 62))
      have r0' := cell_later (w_alloc (w_refl wr) (.cells #[.int .i64 0, .slice none 0 0] 62)) r0
      have r1' := cell_later (w_alloc (w_refl wr) (.cells #[.int .i64 0, .slice none 0 0] 62)) r1
      go_wp2_with (first | (refine wl_row 62 wr.heap.size _ _ #[.int .i64 ra, .slice p2 ws.length c2] NB.out (by kernel_rfl) (by kernel_rfl) (by kernel_rfl) rfl (by kernel_rfl) ?_) | fail)
      intro W5 h5 hB5 ho
      clear ho NB r0 r1 r0' r1'
      have b5 := hB5 _ _ BA.out (Nat.le_refl _)
      have SB := Lib.hid (hS.out.later b5)
      have IB := Lib.hid (hI.out.later b5)
      have N5 := Lib.hid h5
      have M5 := Lib.hid (show m6 < wr.heap.size from Nat.lt_of_lt_of_le B6.out hS.out.bel.size)
      replace HW := Lib.hid (HW.out.later b5)
      clear h5 hB5 BA hS hI b5
      obtain ⟨m10, hm10⟩ : ∃ m10, wr.heap.size = m10 := ⟨_, rfl⟩
      rw [hm10] at N5 M5 ⊢
      clear hm10
      have c1 := N5.out.cell (j := 1) rfl
      obtain ⟨p3, c3, e3, hw3⟩ := HW.out
      simp only [Value.slice.injEq, true_and] at e3
      obtain ⟨rfl, rfl⟩ := e3
      obtain ⟨bw, ow, rfl, y0, y1, y2⟩ := words_at hw3 0 hw0
      have wfit := hw3.fit
      have wmax := hw3.max
      have hwds := Lib.hid (show SliceP w1 (some ⟨bw, ow, none⟩) c2 ws.length 3 (flatW ws) from by (obtain ⟨p4, c4, e4, h4⟩ := HV.out; simp only [Value.slice.injEq, true_and] at e4; obtain ⟨rfl, rfl⟩ := e4; exact h4))
      have hw0' : (0 : Int) < ws.length := by omega
      simp only [Nat.zero_mul, Nat.add_zero] at y0 y1 y2
      have IP := Lib.hid (fun V => pisp_any (ws.getD 0 noWd) endB V)
      have E1 := Lib.hid (fun h => body_end (n := n) (r := ⟨ra, ws⟩) (rs := rs.drop (k + 1)) (zs := zs) (us := us) h)
      have E2 := Lib.hid (fun h x hx => body_bad (n := n) (r := ⟨ra, ws⟩) (rs := rs.drop (k + 1)) (zs := zs) (us := us) (x := x) h hx)
      have E3 := Lib.hid (fun h hx => body_on (n := n) (r := ⟨ra, ws⟩) (rs := rs.drop (k + 1)) (zs := zs) (us := us) h hx)
      simp only at E1 E2 E3
      generalize hx0 : ws.getD 0 noWd = x0 at *
      obtain ⟨xa, xt, xq⟩ := x0
      unfold wv at IP
      simp only at y0 y1 y2 IP
      generalize isW ⟨xa, xt, xq⟩ endB = ip at *
      clear hw3 hx0
      go_wp2_with fail
      refine (IP.out _).mono ?_
      rintro e w2 ⟨rfl, hb⟩
      replace SB := Lib.hid (SB.out.later hb)
      replace IB := Lib.hid (IB.out.later hb)
      replace N5 := Lib.hid (N5.out.later hb)
      replace HW := Lib.hid (HW.out.later hb)
      clear hb IP y0 y1 y2 c1
      cases ip with
      | true =>
        have x1 : IntKind.i64.wrap ((k : Int) + 1) = (k : Int) + 1 := IntWalk.i64_in _ (by omega)
        have hkc := Lib.hid (show (k : Int) + 1 = ((k + 1 : Nat) : Int) by omega)
        have PE := Lib.hid (fun (V : World) (g1 : WordsV V (.slice (some ⟨bw, ow, none⟩) ws.length c2) ws) (g2 : RowsV V (.slice (dropR (some ⟨b, off, none⟩) cap (k + 1)) (rs.length - (k + 1)) (cap - (k + 1))) (rs.drop (k + 1))) => pend_any _ _ ws (rs.drop (k + 1)) hw0 (fun r hr => HN.out r (List.mem_of_mem_drop hr)) V g1 g2)
        have fin := Lib.hid (show R = (zs, us, endE ws (rs.drop (k + 1))) from hV.out.symm.trans (E1.out rfl))
        clear E1 E2 E3 hV hR HM HN
        generalize endE ws (rs.drop (k + 1)) = EE at *
        go_wp2_with fail
        have FX0 := Lib.hid (show SgO w1 w2 (.slice q1 zs.length a1) zs ∧ IntO w1 w2 (.slice q2 us.length a2) us ∧ HoldsB w2 m10 62 #[.int .i64 ra, .slice (some ⟨bw, ow, none⟩) ws.length c2] from ⟨SB.out, IB.out, N5.out⟩)
        clear SB IB N5
        refine wp_region_held (S := (fun W => W.cell? ⟨m10, 1, none⟩ = some (.slice (some ⟨bw, ow, none⟩) ws.length c2))) (by kernel_rfl) ?_
        change wpAnyH _ _ _ _ _ _ _ _ (World.drew _)
        have FX := Lib.hid (show SgO w1 (World.drew w2) (.slice q1 zs.length a1) zs ∧ IntO w1 (World.drew w2) (.slice q2 us.length a2) us ∧ HoldsB (World.drew w2) m10 62 #[.int .i64 ra, .slice (some ⟨bw, ow, none⟩) ws.length c2] from ⟨FX0.out.1.later (w_refl _).drew, FX0.out.2.1.later (w_refl _).drew, FX0.out.2.2.later (w_refl _).drew⟩)
        have FW := Lib.hid (HW.out.later (w_refl w2).drew)
        clear FX0 HW
        generalize World.drew w2 = y at *
        refine wpAnyH_take (i := 0) (v := .slice q1 zs.length a1) rfl (by kernel_rfl) (by kernel_rfl) (by kernel_rfl) (fun _ _ _ h => h) (Or.inl ⟨by kernel_rfl, fun W hW => by go_simp⟩) (FX.out.2.2.cell (j := 1) rfl) ?_
        refine wpAnyH_take (i := 1) (v := .slice q2 us.length a2) rfl (by kernel_rfl) (by kernel_rfl) (by kernel_rfl) (fun _ _ _ h => h) (Or.inl ⟨by kernel_rfl, fun W hW => by go_simp⟩) (FX.out.2.2.cell (j := 1) rfl) ?_
        refine wpAnyH_take (i := 2) (v := .pointer (some ⟨m10, 1, none⟩)) rfl (by kernel_rfl) (by kernel_rfl) (by kernel_rfl) (fun _ _ _ h => h) (Or.inl ⟨by kernel_rfl, fun W hW => by go_simp⟩) (FX.out.2.2.cell (j := 1) rfl) ?_
        refine wpAnyH_take (i := 3) (v := .slice (some ⟨bw, ow, none⟩) ws.length c2) rfl (by kernel_rfl) (by kernel_rfl) (by kernel_rfl) (fun _ _ _ h => h) (Or.inl ⟨by kernel_rfl, fun W hW => by go_simp⟩) (FX.out.2.2.cell (j := 1) rfl) ?_
        refine wpAnyH_take (i := 4) (v := .slice (some ⟨b, off, none⟩) rs.length cap) rfl (by kernel_rfl) (by kernel_rfl) (by kernel_rfl) (fun _ _ _ h => h) (Or.inl ⟨by kernel_rfl, fun W hW => by go_simp⟩) (FX.out.2.2.cell (j := 1) rfl) ?_
        refine wpAnyH_take (i := 5) (v := .int .i64 (k : Int)) rfl (by kernel_rfl) (by kernel_rfl) (by kernel_rfl) (fun _ _ _ h => h) (Or.inl ⟨by kernel_rfl, fun W hW => by go_simp⟩) (FX.out.2.2.cell (j := 1) rfl) ?_
        refine wpAnyH_take (i := 6) (v := .int .i64 ((k : Int) + 1)) rfl (by kernel_rfl) (by kernel_rfl) (by kernel_rfl) (fun _ _ _ h => h) (Or.inl ⟨by kernel_rfl, fun W hW => by go_simp⟩) (FX.out.2.2.cell (j := 1) rfl) ?_
        refine wpAnyH_take (i := 7) (v := .slice (dropR (some ⟨b, off, none⟩) cap (k + 1)) (rs.length - (k + 1)) (cap - (k + 1))) rfl (by kernel_rfl) (by kernel_rfl) (by kernel_rfl) (fun _ _ _ h => h) (sl_yields 57 (.tmp 31) (some (.tmp 33)) none (.slice (some ⟨b, off, none⟩) rs.length cap) (some (.int .i64 ((k : Int) + 1))) none _ (by kernel_rfl) rfl (by kernel_rfl) (by kernel_rfl) rfl (sl_fromR _ _ _ _ _ _ hkc.out hlt)) (FX.out.2.2.cell (j := 1) rfl) ?_
        refine wpAnyH_ready (rs := [8]) (by kernel_rfl) (by simp) ?_
        refine AllReadyH.cons rfl (fun K hK => ?_) AllReadyH.nil
        rw [if_pos (by kernel_rfl)]
        go_simp
        go_at_call 101
        refine (PE.out _ FW.out (rowsV_drop (H0.out.later FX.out.1.bel) (k + 1) _ hlt rfl)).mono ?_
        rintro e y2 ⟨rfl, hb⟩
        replace FX := Lib.hid (show SgO w1 y2 (.slice q1 zs.length a1) zs ∧ IntO w1 y2 (.slice q2 us.length a2) us ∧ HoldsB y2 m10 62 #[.int .i64 ra, .slice (some ⟨bw, ow, none⟩) ws.length c2] from ⟨FX.out.1.later hb, FX.out.2.1.later hb, FX.out.2.2.later hb⟩)
        clear hb PE FW
        go_simp
        refine hK.out _ _ (FX.out.2.2.cell (j := 1) rfl) (fun _ => ?_)
        clear hK K
        obtain ⟨e1, e2⟩ := EE
        refine wpAnyH_take (i := 9) (v := .slice q1 zs.length a1) rfl (by kernel_rfl) (by kernel_rfl) (by kernel_rfl) (fun _ _ _ h => h) (Or.inl ⟨by kernel_rfl, fun W hW => by go_simp⟩) (FX.out.2.2.cell (j := 1) rfl) ?_
        refine wpAnyH_take (i := 10) (v := .slice q2 us.length a2) rfl (by kernel_rfl) (by kernel_rfl) (by kernel_rfl) (fun _ _ _ h => h) (Or.inl ⟨by kernel_rfl, fun W hW => by go_simp⟩) (FX.out.2.2.cell (j := 1) rfl) ?_
        refine wpAnyH_ready (rs := [11]) (by kernel_rfl) (by simp) ?_
        refine AllReadyH.cons rfl (fun K hK => ?_) AllReadyH.nil
        refine step_storeTo rfl 43 (.tmp 6) (.tmp 35) rfl m6 #[.int .i64 e1, .int .i64 e2] (by kernel_rfl) (by kernel_rfl) 43 _ (F0.out.later FX.out.1.bel) (by kernel_rfl) rfl (by kernel_rfl) ?_
        intro W5 h5 hB5 ho
        have H5 := Lib.hid h5
        have C1 := Lib.hid (show W5.cell? ⟨m10, 1, none⟩ = some (.slice (some ⟨bw, ow, none⟩) ws.length c2) from (HoldsB.over FX.out.2.2 (ho m10 (by have := M5.out; omega))).cell (j := 1) rfl)
        have SC := Lib.hid (FX.out.1.over m6 B6.out hB5 ho B0.out hm6.out)
        have IC := Lib.hid (FX.out.2.1.over m6 B6.out hB5 ho B0.out hm6.out)
        clear h5 hB5 ho FX
        refine hK.out _ _ C1.out (fun _ => ?_)
        clear hK K C1
        refine wpAnyH_done (by kernel_rfl) ?_ _
        go_wp2_with fail
        refine bodyPost_ret (v := .tuple #[.slice q1 zs.length a1, .slice q2 us.length a2, ftV (e1, e2)]) ?_ rfl ⟨_, _, by rw [fin.out], by rw [fin.out]; exact SC.out, by rw [fin.out]; exact IC.out⟩
        exact res_3 rfl (by kernel_rfl) (by kernel_rfl) (by kernel_rfl) (ft_load (f := (e1, e2)) H5.out)
      | false =>
        have c1 := N5.out.cell (j := 1) rfl
        have BP := Lib.hid (fun hx => hV.out.symm.trans (E3.out rfl hx))
        have BQ := Lib.hid (fun x hx => hV.out.symm.trans (E2.out rfl x hx))
        clear E1 E2 E3 hV hR HM
        go_wp2_with fail
        clear c1
        go_loopw [7, 8, 39] (fun v u i wx => ∃ (j : Nat) (zs2 : List Sg) (us2 : List Int), j ≤ ws.length ∧ i = .int .i64 j ∧ (∃ q c, v = .slice q zs2.length c) ∧ (∃ q c, u = .slice q us2.length c) ∧ Hid (zs2 = zs ++ (ws.take j).map fun x => (sgnW x).1) ∧ Hid (us2 = us ++ (ws.take j).map fun x => x.at_) ∧ Hid (badW (ws.take j) = none) ∧ Hid (SgO w1 wx v zs2) ∧ Hid (IntO w1 wx u us2)) (fun _ _ i _ => ws.length - (intOf i).toNat)
        case atStart => exact ⟨0, zs, us, by omega, rfl, ⟨q1, a1, rfl⟩, ⟨q2, a2, rfl⟩, Lib.hid (by simp), Lib.hid (by simp), Lib.hid rfl, Lib.hid SB.out, Lib.hid IB.out⟩
        case round =>
          obtain ⟨j, zs2, us2, hj, rfl, ⟨q3, a3, rfl⟩, ⟨q4, a4, rfl⟩, hz2, hu2, hbd, hS2, hI2⟩ := hrel
          by_cases hjl : j < ws.length
          · have hjl' : (j : Int) < ws.length := by omega
            have hj0 : (0 : Int) ≤ j := by omega
            obtain ⟨b', o', e', y0, y1, y2⟩ := words_at (hwds.out.later hS2.out.bel) j hjl
            simp only [Option.some.injEq, Addr.mk.injEq, and_true] at e'
            obtain ⟨rfl, rfl⟩ := e'
            have hsz := Lib.hid (hws.out _ (getD_mem hjl))
            have P := Lib.hid (fun V (TV : TabS V) => psgof_any (ws.getD j noWd) (Nat.le_trans hsz.out (by decide)) V TV)
            have hbh := Lib.hid (fun h => BQ.out _ (bad_here hjl h hbd.out))
            have hbm := Lib.hid (fun h => bad_more hjl h hbd.out)
            have htk := Lib.hid (take_getD hjl)
            have hle := Lib.hid (show zs2.length ≤ 1000000000000 ∧ us2.length ≤ 1000000000000 by rw [hz2.out, hu2.out]; simp only [List.length_append, List.length_map, List.length_take]; have := hz.out; have := hu.out; omega)
            clear hbd BP BQ
            generalize ws.getD j noWd = x at *
            obtain ⟨xa, xt, xq⟩ := x
            unfold wv at P
            simp only at y0 y1 y2 P hsz
            have NW := Lib.hid (HoldsB.new wr 101 #[.int .i64 0, .string ⟨#[]⟩, .bool false])
            have BA := Lib.hid (w_alloc (w_refl wr) (.cells #[.int .i64 0, .string ⟨#[]⟩, .bool false] 101))
            have y0' := cell_later (w_alloc (w_refl wr) (.cells #[.int .i64 0, .string ⟨#[]⟩, .bool false] 101)) y0
            have y1' := cell_later (w_alloc (w_refl wr) (.cells #[.int .i64 0, .string ⟨#[]⟩, .bool false] 101)) y1
            have y2' := cell_later (w_alloc (w_refl wr) (.cells #[.int .i64 0, .string ⟨#[]⟩, .bool false] 101)) y2
            go_wp2_with (first | (refine wl_row 101 wr.heap.size _ _ #[.int .i64 xa, .string xt, .bool xq] NW.out (by kernel_rfl) (by kernel_rfl) (by kernel_rfl) rfl (by kernel_rfl) ?_) | fail)
            intro W5 h5 hB5 ho
            clear ho NW y0 y1 y2 y0' y1' y2'
            have b5 := hB5 _ _ BA.out (Nat.le_refl _)
            have hSz := Lib.hid hS2.out.bel.size
            replace hS2 := Lib.hid (hS2.out.later b5)
            replace hI2 := Lib.hid (hI2.out.later b5)
            have N12 := Lib.hid h5
            clear h5 hB5 BA b5
            have M12 := Lib.hid (show m6 < wr.heap.size from Nat.lt_of_lt_of_le B6.out hSz.out)
            obtain ⟨m12, hm12⟩ : ∃ m12, wr.heap.size = m12 := ⟨_, rfl⟩
            rw [hm12] at N12 M12 ⊢
            clear hm12
            have c0 := N12.out.cell (j := 0) rfl
            have c1 := N12.out.cell (j := 1) rfl
            have c2' := N12.out.cell (j := 2) rfl
            generalize hsv : sgnW ⟨xa, xt, xq⟩ = sv at *
            obtain ⟨sg, er⟩ := sv
            simp only at P hbh hbm
            go_wp2_with fail
            refine (P.out _ (T0.out.later hS2.out.bel)).mono ?_
            rintro e w3 ⟨rfl, hb⟩
            replace hS2 := Lib.hid (hS2.out.later hb)
            replace hI2 := Lib.hid (hI2.out.later hb)
            replace N12 := Lib.hid (N12.out.later hb)
            have NE := Lib.hid hS2.out.lt.symm
            have N13 := Lib.hid (sg_new w3 sg)
            replace hS2 := Lib.hid (hS2.out.later (w_alloc (w_refl w3) (sgO sg)))
            replace hI2 := Lib.hid (hI2.out.later (w_alloc (w_refl w3) (sgO sg)))
            replace N12 := Lib.hid (N12.out.later (w_alloc (w_refl w3) (sgO sg)))
            clear hb P c0 c1 c2'
            by_cases he : er = 0
            · subst he
              have hne2 : ((0 : Int) != 0) = false := rfl
              have hz4 := Lib.hid (show zs2 ++ [sg] = zs ++ (ws.take (j + 1)).map fun x => (sgnW x).1 by rw [htk.out, List.map_append, ← List.append_assoc, ← hz2.out]; simp [hsv])
              have hu4 := Lib.hid (show us2 ++ [xa] = us ++ (ws.take (j + 1)).map fun x => x.at_ by rw [htk.out, List.map_append, ← List.append_assoc, ← hu2.out]; rfl)
              replace hbm := Lib.hid (hbm.out rfl)
              clear hbh hz2 hu2 htk hsv HN HW SB IB N5
              go_wp2_with (first | (refine wl_store0 w3.heap.size _ sg rfl (by kernel_rfl) (by kernel_rfl) rfl ?_) | fail)
              obtain ⟨m13, hm13⟩ : ∃ m13, w3.heap.size = m13 := ⟨_, rfl⟩
              rw [hm13] at N13 NE ⊢
              generalize World.alloc w3 (sgO sg) = w4 at *
              clear hm13
              refine wp_region_held (S := (fun W => SgAt W m13 0 sg ∧ W.cell? ⟨m12, 0, none⟩ = some (.int .i64 xa))) (by kernel_rfl) ?_
              change wpAnyH _ _ _ _ _ _ _ _ (World.drew _)
              replace hS2 := Lib.hid (hS2.out.later (w_refl w4).drew)
              replace hI2 := Lib.hid (hI2.out.later (w_refl w4).drew)
              replace N12 := Lib.hid (N12.out.later (w_refl w4).drew)
              replace N13 := Lib.hid (N13.out.later (w_refl w4).drew)
              generalize World.drew w4 = y0 at *
              refine wpAnyH_take (i := 0) (v := .slice q3 zs2.length a3) rfl (by kernel_rfl) (by kernel_rfl) (by kernel_rfl) (fun _ _ _ h => h) (Or.inl ⟨by kernel_rfl, fun W hW => by (obtain ⟨x1, x2⟩ := hW; go_simp)⟩) (⟨N13.out.sg, N12.out.cell (j := 0) rfl⟩) ?_
              refine wpAnyH_take (i := 1) (v := sgv sg) rfl (by kernel_rfl) (by kernel_rfl) (by kernel_rfl) (fun _ _ _ h => h) (sg_yields (.tmp 13) m13 0 sg (by kernel_rfl) rfl (by kernel_rfl) (fun _ h => h.1)) (⟨N13.out.sg, N12.out.cell (j := 0) rfl⟩) ?_
              refine wpAnyH_take (i := 4) (v := .slice q4 us2.length a4) rfl (by kernel_rfl) (by kernel_rfl) (by kernel_rfl) (fun _ _ _ h => h) (Or.inl ⟨by kernel_rfl, fun W hW => by (obtain ⟨x1, x2⟩ := hW; go_simp)⟩) (⟨N13.out.sg, N12.out.cell (j := 0) rfl⟩) ?_
              refine wpAnyH_take (i := 5) (v := .pointer (some ⟨m12, 0, none⟩)) rfl (by kernel_rfl) (by kernel_rfl) (by kernel_rfl) (fun _ _ _ h => h) (Or.inl ⟨by kernel_rfl, fun W hW => by (obtain ⟨x1, x2⟩ := hW; go_simp)⟩) (⟨N13.out.sg, N12.out.cell (j := 0) rfl⟩) ?_
              refine wpAnyH_take (i := 6) (v := .int .i64 xa) rfl (by kernel_rfl) (by kernel_rfl) (by kernel_rfl) (fun _ _ _ h => h) (Or.inl ⟨by kernel_rfl, fun W hW => by (obtain ⟨x1, x2⟩ := hW; go_simp)⟩) (⟨N13.out.sg, N12.out.cell (j := 0) rfl⟩) ?_
              refine wpAnyH_ready (rs := [2, 7]) (by kernel_rfl) (by simp) ?_
              refine AllReadyH.cons rfl (fun K hK => ?_) (AllReadyH.cons rfl (fun K hK => ?_) AllReadyH.nil)
              · refine step_lit rfl (.tmp 55) rfl sg (by kernel_rfl) ?_
                replace hS2 := Lib.hid (hS2.out.later (w_alloc (w_refl _) (sgO sg)))
                replace hI2 := Lib.hid (hI2.out.later (w_alloc (w_refl _) (sgO sg)))
                replace N12 := Lib.hid (N12.out.later (w_alloc (w_refl _) (sgO sg)))
                replace N13 := Lib.hid (N13.out.later (w_alloc (w_refl _) (sgO sg)))
                have LS := Lib.hid (sg_new y0 sg)
                refine hK.out _ _ ⟨N13.out.sg, N12.out.cell (j := 0) rfl⟩ (fun _ => ?_)
                clear hK K
                obtain ⟨bS, hbS⟩ : ∃ x, y0.heap.size = x := ⟨_, rfl⟩
                rw [hbS] at LS ⊢
                generalize y0.alloc (sgO sg) = y1 at *
                clear hbS
                refine wpAnyH_ready (rs := [3, 7]) (by kernel_rfl) (by simp) ?_
                refine AllReadyH.cons rfl (fun K hK => ?_) (AllReadyH.cons rfl (fun K hK => ?_) AllReadyH.nil)
                · refine step_appS rfl (.tmp 54) (.tmp 56) rfl hS2.out hle.out.1 sg bS (by kernel_rfl) (by kernel_rfl) LS.out ?_
                  intro gS cS y2 hs hg
                  replace hI2 := Lib.hid (hI2.out.kept hS2.out hg)
                  replace N12 := Lib.hid (N12.out.kept hg (own_ne hS2.out.row N12.out (by decide)))
                  replace N13 := Lib.hid (N13.out.kept hg NE.out)
                  replace hS2 := Lib.hid hs
                  clear hs hg LS
                  refine hK.out _ _ ⟨N13.out.sg, N12.out.cell (j := 0) rfl⟩ (fun _ => ?_)
                  clear hK K
                  refine wpAnyH_ready (rs := [7]) (by kernel_rfl) (by simp) ?_
                  refine AllReadyH.cons rfl (fun K hK => ?_) AllReadyH.nil
                  refine step_litI rfl (.tmp 60) rfl xa (by kernel_rfl) ?_
                  replace hS2 := Lib.hid (hS2.out.later (w_alloc (w_refl _) (.cells #[.int .i64 xa] 3)))
                  replace hI2 := Lib.hid (hI2.out.later (w_alloc (w_refl _) (.cells #[.int .i64 xa] 3)))
                  replace N12 := Lib.hid (N12.out.later (w_alloc (w_refl _) (.cells #[.int .i64 xa] 3)))
                  replace N13 := Lib.hid (N13.out.later (w_alloc (w_refl _) (.cells #[.int .i64 xa] 3)))
                  have LI := Lib.hid (HoldsB.new y2 3 #[.int .i64 xa])
                  refine hK.out _ _ ⟨N13.out.sg, N12.out.cell (j := 0) rfl⟩ (fun _ => ?_)
                  clear hK K
                  obtain ⟨bI, hbI⟩ : ∃ x, y2.heap.size = x := ⟨_, rfl⟩
                  rw [hbI] at LI ⊢
                  generalize y2.alloc (.cells #[.int .i64 xa] 3) = y3 at *
                  clear hbI
                  refine wpAnyH_ready (rs := [8]) (by kernel_rfl) (by simp) ?_
                  refine AllReadyH.cons rfl (fun K hK => ?_) AllReadyH.nil
                  refine step_appI rfl (.tmp 58) (.tmp 61) rfl hI2.out hle.out.2 xa bI (by kernel_rfl) (by kernel_rfl) LI.out ?_
                  intro gI cI y4 hs hg
                  replace hS2 := Lib.hid (hS2.out.kept hI2.out hg)
                  replace N12 := Lib.hid (N12.out.kept hg (own_ne hI2.out.row N12.out (by decide)))
                  replace N13 := Lib.hid (N13.out.kept hg (own_ne hI2.out.row N13.out (by decide)))
                  replace hI2 := Lib.hid hs
                  clear hs hg LI
                  refine hK.out _ _ ⟨N13.out.sg, N12.out.cell (j := 0) rfl⟩ (fun _ => ?_)
                  clear hK K
                  refine wpAnyH_take (i := 9) (v := .slice (some ⟨gS, 0, none⟩) (zs2.length + 1) cS) rfl (by kernel_rfl) (by kernel_rfl) (by kernel_rfl) (fun _ _ _ h => h) (Or.inl ⟨by kernel_rfl, fun W hW => by (obtain ⟨x1, x2⟩ := hW; go_simp)⟩) (⟨N13.out.sg, N12.out.cell (j := 0) rfl⟩) ?_
                  refine wpAnyH_take (i := 10) (v := .slice (some ⟨gI, 0, none⟩) (us2.length + 1) cI) rfl (by kernel_rfl) (by kernel_rfl) (by kernel_rfl) (fun _ _ _ h => h) (Or.inl ⟨by kernel_rfl, fun W hW => by (obtain ⟨x1, x2⟩ := hW; go_simp)⟩) (⟨N13.out.sg, N12.out.cell (j := 0) rfl⟩) ?_
                  refine wpAnyH_done (by kernel_rfl) ?_ _
                  clear N12 N13 NE
                  go_wp2_with fail
                  exact ⟨⟨j + 1, zs2 ++ [sg], us2 ++ [xa], by omega, by go_num, ⟨_, cS, by rw [List.length_append]; rfl⟩, ⟨_, cI, by rw [List.length_append]; rfl⟩, hz4, hu4, hbm, hS2, hI2⟩, by simp [intOf]; omega⟩
                · refine step_litI rfl (.tmp 60) rfl xa (by kernel_rfl) ?_
                  replace hS2 := Lib.hid (hS2.out.later (w_alloc (w_refl _) (.cells #[.int .i64 xa] 3)))
                  replace hI2 := Lib.hid (hI2.out.later (w_alloc (w_refl _) (.cells #[.int .i64 xa] 3)))
                  replace N12 := Lib.hid (N12.out.later (w_alloc (w_refl _) (.cells #[.int .i64 xa] 3)))
                  replace N13 := Lib.hid (N13.out.later (w_alloc (w_refl _) (.cells #[.int .i64 xa] 3)))
                  replace LS := Lib.hid (LS.out.later (w_alloc (w_refl _) (.cells #[.int .i64 xa] 3)))
                  have LI := Lib.hid (HoldsB.new y1 3 #[.int .i64 xa])
                  refine hK.out _ _ ⟨N13.out.sg, N12.out.cell (j := 0) rfl⟩ (fun _ => ?_)
                  clear hK K
                  obtain ⟨bI, hbI⟩ : ∃ x, y1.heap.size = x := ⟨_, rfl⟩
                  rw [hbI] at LI ⊢
                  generalize y1.alloc (.cells #[.int .i64 xa] 3) = y2 at *
                  clear hbI
                  refine wpAnyH_ready (rs := [3]) (by kernel_rfl) (by simp) ?_
                  refine AllReadyH.cons rfl (fun K hK => ?_) AllReadyH.nil
                  refine step_appS rfl (.tmp 54) (.tmp 56) rfl hS2.out hle.out.1 sg bS (by kernel_rfl) (by kernel_rfl) LS.out ?_
                  intro gS cS y3 hs hg
                  replace hI2 := Lib.hid (hI2.out.kept hS2.out hg)
                  replace N12 := Lib.hid (N12.out.kept hg (own_ne hS2.out.row N12.out (by decide)))
                  replace N13 := Lib.hid (N13.out.kept hg NE.out)
                  replace LI := Lib.hid (LI.out.kept hg (own_ne hS2.out.row LI.out (by decide)))
                  replace hS2 := Lib.hid hs
                  clear hs hg LS
                  refine hK.out _ _ ⟨N13.out.sg, N12.out.cell (j := 0) rfl⟩ (fun _ => ?_)
                  clear hK K
                  refine wpAnyH_ready (rs := [8]) (by kernel_rfl) (by simp) ?_
                  refine AllReadyH.cons rfl (fun K hK => ?_) AllReadyH.nil
                  refine step_appI rfl (.tmp 58) (.tmp 61) rfl hI2.out hle.out.2 xa bI (by kernel_rfl) (by kernel_rfl) LI.out ?_
                  intro gI cI y4 hs hg
                  replace hS2 := Lib.hid (hS2.out.kept hI2.out hg)
                  replace N12 := Lib.hid (N12.out.kept hg (own_ne hI2.out.row N12.out (by decide)))
                  replace N13 := Lib.hid (N13.out.kept hg (own_ne hI2.out.row N13.out (by decide)))
                  replace hI2 := Lib.hid hs
                  clear hs hg LI
                  refine hK.out _ _ ⟨N13.out.sg, N12.out.cell (j := 0) rfl⟩ (fun _ => ?_)
                  clear hK K
                  refine wpAnyH_take (i := 9) (v := .slice (some ⟨gS, 0, none⟩) (zs2.length + 1) cS) rfl (by kernel_rfl) (by kernel_rfl) (by kernel_rfl) (fun _ _ _ h => h) (Or.inl ⟨by kernel_rfl, fun W hW => by (obtain ⟨x1, x2⟩ := hW; go_simp)⟩) (⟨N13.out.sg, N12.out.cell (j := 0) rfl⟩) ?_
                  refine wpAnyH_take (i := 10) (v := .slice (some ⟨gI, 0, none⟩) (us2.length + 1) cI) rfl (by kernel_rfl) (by kernel_rfl) (by kernel_rfl) (fun _ _ _ h => h) (Or.inl ⟨by kernel_rfl, fun W hW => by (obtain ⟨x1, x2⟩ := hW; go_simp)⟩) (⟨N13.out.sg, N12.out.cell (j := 0) rfl⟩) ?_
                  refine wpAnyH_done (by kernel_rfl) ?_ _
                  clear N12 N13 NE
                  go_wp2_with fail
                  exact ⟨⟨j + 1, zs2 ++ [sg], us2 ++ [xa], by omega, by go_num, ⟨_, cS, by rw [List.length_append]; rfl⟩, ⟨_, cI, by rw [List.length_append]; rfl⟩, hz4, hu4, hbm, hS2, hI2⟩, by simp [intOf]; omega⟩
              · refine step_litI rfl (.tmp 60) rfl xa (by kernel_rfl) ?_
                replace hS2 := Lib.hid (hS2.out.later (w_alloc (w_refl _) (.cells #[.int .i64 xa] 3)))
                replace hI2 := Lib.hid (hI2.out.later (w_alloc (w_refl _) (.cells #[.int .i64 xa] 3)))
                replace N12 := Lib.hid (N12.out.later (w_alloc (w_refl _) (.cells #[.int .i64 xa] 3)))
                replace N13 := Lib.hid (N13.out.later (w_alloc (w_refl _) (.cells #[.int .i64 xa] 3)))
                have LI := Lib.hid (HoldsB.new y0 3 #[.int .i64 xa])
                refine hK.out _ _ ⟨N13.out.sg, N12.out.cell (j := 0) rfl⟩ (fun _ => ?_)
                clear hK K
                obtain ⟨bI, hbI⟩ : ∃ x, y0.heap.size = x := ⟨_, rfl⟩
                rw [hbI] at LI ⊢
                generalize y0.alloc (.cells #[.int .i64 xa] 3) = y1 at *
                clear hbI
                refine wpAnyH_ready (rs := [2]) (by kernel_rfl) (by simp) ?_
                refine AllReadyH.cons rfl (fun K hK => ?_) AllReadyH.nil
                refine step_lit rfl (.tmp 55) rfl sg (by kernel_rfl) ?_
                replace hS2 := Lib.hid (hS2.out.later (w_alloc (w_refl _) (sgO sg)))
                replace hI2 := Lib.hid (hI2.out.later (w_alloc (w_refl _) (sgO sg)))
                replace N12 := Lib.hid (N12.out.later (w_alloc (w_refl _) (sgO sg)))
                replace N13 := Lib.hid (N13.out.later (w_alloc (w_refl _) (sgO sg)))
                replace LI := Lib.hid (LI.out.later (w_alloc (w_refl _) (sgO sg)))
                have LS := Lib.hid (sg_new y1 sg)
                refine hK.out _ _ ⟨N13.out.sg, N12.out.cell (j := 0) rfl⟩ (fun _ => ?_)
                clear hK K
                obtain ⟨bS, hbS⟩ : ∃ x, y1.heap.size = x := ⟨_, rfl⟩
                rw [hbS] at LS ⊢
                generalize y1.alloc (sgO sg) = y2 at *
                clear hbS
                refine wpAnyH_ready (rs := [3]) (by kernel_rfl) (by simp) ?_
                refine AllReadyH.cons rfl (fun K hK => ?_) AllReadyH.nil
                refine step_appS rfl (.tmp 54) (.tmp 56) rfl hS2.out hle.out.1 sg bS (by kernel_rfl) (by kernel_rfl) LS.out ?_
                intro gS cS y3 hs hg
                replace hI2 := Lib.hid (hI2.out.kept hS2.out hg)
                replace N12 := Lib.hid (N12.out.kept hg (own_ne hS2.out.row N12.out (by decide)))
                replace N13 := Lib.hid (N13.out.kept hg NE.out)
                replace LI := Lib.hid (LI.out.kept hg (own_ne hS2.out.row LI.out (by decide)))
                replace hS2 := Lib.hid hs
                clear hs hg LS
                refine hK.out _ _ ⟨N13.out.sg, N12.out.cell (j := 0) rfl⟩ (fun _ => ?_)
                clear hK K
                refine wpAnyH_ready (rs := [8]) (by kernel_rfl) (by simp) ?_
                refine AllReadyH.cons rfl (fun K hK => ?_) AllReadyH.nil
                refine step_appI rfl (.tmp 58) (.tmp 61) rfl hI2.out hle.out.2 xa bI (by kernel_rfl) (by kernel_rfl) LI.out ?_
                intro gI cI y4 hs hg
                replace hS2 := Lib.hid (hS2.out.kept hI2.out hg)
                replace N12 := Lib.hid (N12.out.kept hg (own_ne hI2.out.row N12.out (by decide)))
                replace N13 := Lib.hid (N13.out.kept hg (own_ne hI2.out.row N13.out (by decide)))
                replace hI2 := Lib.hid hs
                clear hs hg LI
                refine hK.out _ _ ⟨N13.out.sg, N12.out.cell (j := 0) rfl⟩ (fun _ => ?_)
                clear hK K
                refine wpAnyH_take (i := 9) (v := .slice (some ⟨gS, 0, none⟩) (zs2.length + 1) cS) rfl (by kernel_rfl) (by kernel_rfl) (by kernel_rfl) (fun _ _ _ h => h) (Or.inl ⟨by kernel_rfl, fun W hW => by (obtain ⟨x1, x2⟩ := hW; go_simp)⟩) (⟨N13.out.sg, N12.out.cell (j := 0) rfl⟩) ?_
                refine wpAnyH_take (i := 10) (v := .slice (some ⟨gI, 0, none⟩) (us2.length + 1) cI) rfl (by kernel_rfl) (by kernel_rfl) (by kernel_rfl) (fun _ _ _ h => h) (Or.inl ⟨by kernel_rfl, fun W hW => by (obtain ⟨x1, x2⟩ := hW; go_simp)⟩) (⟨N13.out.sg, N12.out.cell (j := 0) rfl⟩) ?_
                refine wpAnyH_done (by kernel_rfl) ?_ _
                clear N12 N13 NE
                go_wp2_with fail
                exact ⟨⟨j + 1, zs2 ++ [sg], us2 ++ [xa], by omega, by go_num, ⟨_, cS, by rw [List.length_append]; rfl⟩, ⟨_, cI, by rw [List.length_append]; rfl⟩, hz4, hu4, hbm, hS2, hI2⟩, by simp [intOf]; omega⟩
            · have hne2 : (er != 0) = true := by simp [he]
              have fin := Lib.hid (show R = ([], [], (er, xa)) from (hbh.out he))
              clear hbh hbm hz2 hu2 htk hsv HN HW SB IB N5
              go_wp2_with (first | (refine wl_store0 w3.heap.size _ sg rfl (by kernel_rfl) (by kernel_rfl) rfl ?_) | fail)
              obtain ⟨m13, hm13⟩ : ∃ m13, w3.heap.size = m13 := ⟨_, rfl⟩
              rw [hm13] at N13 NE ⊢
              generalize World.alloc w3 (sgO sg) = w4 at *
              clear hm13
              clear N13 NE hI2 hle
              have cK := N12.out.cell (j := 0) rfl
              have H6 := Lib.hid (F0.out.later hS2.out.bel)
              have f0 := H6.out.cell (j := 0) rfl
              have f1 := H6.out.cell (j := 1) rfl
              have ff := H6.out.frozen
              have BZ := Lib.hid (w_below B0.out hS2.out.bel)
              have hmm : m12 ≠ m6 := by have := M12.out; omega
              have hb6 := Lib.hid (show w.heap.size ≤ m6 by rw [hm6.out]; exact Nat.le_refl _)
              go_region_held3 (fun W => W.cell? ⟨m12, 0, none⟩ = some (.int .i64 xa)) (first | exact cK | assumption | exact gkept (gkept cK (.inl hmm)) (.inl hmm))
                (first | fail)
              have H7 := Lib.hid (show HoldsB (((w4.setCell ⟨m6, 0, none⟩ (.int .i64 er)).setCell ⟨m6, 1, none⟩ (.int .i64 xa)).drew) m6 43 #[.int .i64 er, .int .i64 xa] from ((H6.out.set 0 (.int .i64 er)).set 1 (.int .i64 xa)).later (w_refl _).drew)
              have B7 := Lib.hid (show Below w.heap.size w (((w4.setCell ⟨m6, 0, none⟩ (.int .i64 er)).setCell ⟨m6, 1, none⟩ (.int .i64 xa)).drew) from (w_put (w_put BZ.out hb6.out 0 _) hb6.out 1 _).drew)
              clear cK H6 f0 f1 ff BZ hmm N12 hS2
              generalize World.drew _ = w5 at *
              go_wp2_with fail
              refine bodyPost_ret (v := .tuple #[.slice none 0 0, .slice none 0 0, ftV (er, xa)]) ?_ rfl ⟨_, _, by rw [fin.out], by rw [fin.out]; exact SgO.none B7.out, by rw [fin.out]; exact IntO.none B7.out⟩
              exact res_3 rfl (by kernel_rfl) (by kernel_rfl) (by kernel_rfl) (ft_load (f := (er, xa)) H7.out)
          · obtain rfl : j = ws.length := by omega
            have hjl' : ¬ ((ws.length : Int) < ws.length) := by omega
            rw [List.take_length] at hz2 hu2 hbd
            have hV2 := Lib.hid (show bodyV n (rs.drop (k + 1)) zs2 us2 = R by rw [hz2.out, hu2.out]; exact (BP.out hbd.out).symm)
            have hz3 := Lib.hid (show zs2.length ≤ (k + 1) * 100000 by rw [hz2.out, List.length_append, List.length_map]; have := hz.out; omega)
            have hu3 := Lib.hid (show us2.length ≤ (k + 1) * 100000 by rw [hu2.out, List.length_append, List.length_map]; have := hu.out; omega)
            clear BP BQ hz2 hu2 hbd hz hu HN HW SB IB N5
            go_wp2_with fail
            exact ⟨⟨k + 1, zs2, us2, by omega, by go_num, ⟨q3, a3, rfl⟩, ⟨q4, a4, rfl⟩, hV2, hz3, hu3, hS2, hI2⟩, by simp [intOf]; omega⟩
    · have hlt' : ¬ ((k : Int) < rs.length) := by omega
      obtain rfl : k = rs.length := by omega
      rw [List.drop_length] at hV
      have FB := Lib.hid (F0.out.later hS.out.bel)
      have BB := Lib.hid (w_below B0.out hS.out.bel)
      clear HM HN H0 T0 hS hI F0 B0
      go_wp2_with (first | (refine wl_row 43 m6 _ _ #[.int .i64 9, .int .i64 n] FB.out (by kernel_rfl) (by kernel_rfl) (by kernel_rfl) rfl (by kernel_rfl) ?_) | fail)
      intro W5 h5 hB5 ho
      clear ho
      have H5 := Lib.hid h5
      have B5 := Lib.hid (hB5 _ _ BB.out (by rw [hm6.out]; exact Nat.le_refl _))
      clear h5 hB5
      go_wp2_with fail
      have fin := Lib.hid (show R = ([], [], (9, n)) from hV.out.symm)
      clear hV hR
      refine bodyPost_ret (v := .tuple #[.slice none 0 0, .slice none 0 0, ftV (9, n)]) ?_ rfl ⟨_, _, by rw [fin.out], by rw [fin.out]; exact SgO.none B5.out, by rw [fin.out]; exact IntO.none B5.out⟩
      exact res_3 rfl (by kernel_rfl) (by kernel_rfl) (by kernel_rfl) (ft_load H5.out)
end Go.Proofs.YtdmedealdhadcaaGreatDoor

namespace Go.Proofs.YtdmedealdhadcaaGreatDoor
open Go.RowKit
theorem bytes_of {a : ByteArray} {l : List UInt8} (h : a.data.toList = l) : a = ⟨l.toArray⟩ := by
  apply ByteArray.ext; apply Array.ext'; rw [h]
end Go.Proofs.YtdmedealdhadcaaGreatDoor

namespace Go.Proofs.YtdmedealdhadcaaGreatDoor
open Go.RowKit
/-- Two lists of rows are alike; with off, at the same offsets. -/
structure SameR (off : Bool) (ra rb : List Rw) : Prop where
  len : ra.length = rb.length
  words : ∀ k, k < ra.length → (ra.getD k noRw).words.length = (rb.getD k noRw).words.length
  at_ : off = true → ∀ k, k < ra.length → (ra.getD k noRw).at_ = (rb.getD k noRw).at_
  text : ∀ k, k < ra.length → ∀ m, m < (ra.getD k noRw).words.length → ((ra.getD k noRw).words.getD m noWd).text = ((rb.getD k noRw).words.getD m noWd).text
  quoted : ∀ k, k < ra.length → ∀ m, m < (ra.getD k noRw).words.length → ((ra.getD k noRw).words.getD m noWd).quoted = ((rb.getD k noRw).words.getD m noWd).quoted
  wat : off = true → ∀ k, k < ra.length → ∀ m, m < (ra.getD k noRw).words.length → ((ra.getD k noRw).words.getD m noWd).at_ = ((rb.getD k noRw).words.getD m noWd).at_
theorem SameR.refl (off : Bool) (rs : List Rw) : SameR off rs rs := ⟨rfl, fun _ _ => rfl, fun _ _ _ => rfl, fun _ _ _ _ => rfl, fun _ _ _ _ => rfl, fun _ _ _ _ _ => rfl⟩
end Go.Proofs.YtdmedealdhadcaaGreatDoor
