/- The program's Check. -/
import Derived.Test.YthokapebcplmkaaDChk
import Derived.Test.YthokapebcplmkaaLgLit
namespace Go.Proofs.Ythokapebcplmkaa
open Go.RowKit

set_option maxRecDepth 100000 in
set_option maxHeartbeats 4000000 in
theorem pchk_any (q : Q4) (l : List Sg) (hl : l.length ≤ 1000) (p : Option Addr) (cap : Nat) (w : World) (h : SlP w 17 p l.length cap (flatG l)) :
    Calls Try.prog 20 #[mv q, .slice p l.length cap] w fun e w' => e = .returned (.int .i64 (chkD q l)) ∧ Below w.heap.size w w' := by
  have f1 := h.fit
  have f2 := h.max
  have K0 := Lib.hid (Cell4.made w q 23)
  have B0 := Lib.hid (w_alloc (w_refl w) (mO q))
  have MC := Lib.hid (fun W => mcheck_any q W)
  have HP := Lib.hid h
  have DB := Lib.hid (fun W => dtb_any W)
  have DT := Lib.hid (fun b cur s W hh => dts_any b cur s W hh)
  clear h
  by_cases hq : okM q
  · have HH := Lib.hid (fun j hj he hb => chkD_hit (q := q) (l := l) hq (j := j) hj he hb)
    have HO := Lib.hid (fun hb => chkD_ok (q := q) (l := l) hq hb)
    rw [chkM_ok hq] at MC
    clear hq
    generalize chkD q l = R at *
    obtain ⟨q1, q2, q3, q4⟩ := q
    go_enter Try.func20, Try.ntmps20
    obtain ⟨_, k0, k1, k2, k3, _⟩ := K0.out
    simp only at k0 k1 k2 k3
    go_wp2_with fail
    refine (MC.out _).mono ?_
    rintro e w1 ⟨rfl, hb⟩
    have B1 := Lib.hid (w_below B0.out hb)
    have KM0 := Lib.hid (K0.out.later hb)
    have hw1 := hb.size
    rw [World.size_alloc] at hw1
    clear hb K0 k0 k1 k2 k3 B0 MC
    obtain ⟨bm, hbm⟩ : ∃ bm, w.heap.size = bm := ⟨_, rfl⟩
    rw [hbm] at KM0 hw1 ⊢
    have KM := Lib.hid (fun W (hb : Below w1.heap.size w1 W) => KM0.out.later hb)
    clear hbm KM0
    go_wp2_with fail
    refine (DB.out _).mono ?_
    rintro e w2 ⟨rfl, hS, hb⟩
    have hL0 := Lib.hid hS
    have hB0 := Lib.hid hb
    obtain ⟨b, hbb⟩ : ∃ b, w1.heap.size = b := ⟨_, rfl⟩
    have hle : w1.heap.size ≤ b := by omega
    rw [hbb] at hL0 ⊢
    clear hS hb DB hbb
    go_wp2_with fail
    go_loopw [8, 9, 18] (fun s8 s9 s18 wr => ∃ k : Nat, k ≤ l.length ∧ s18 = .int .i64 k ∧ Hid (∀ j, j < k → errD (q1, q2, q3, q4) l j = 0) ∧ Hid (HoldsB wr b 51 (sgA (bef l k))) ∧ Hid (Below w1.heap.size w1 wr)) (fun _ _ s18 _ => l.length - (intOf s18).toNat)
    case atStart => exact ⟨0, by omega, rfl, Lib.hid (fun j hj => by omega), hL0, hB0⟩
    case round =>
      rename World => wr
      clear hL0 hB0
      obtain ⟨k, hk, rfl, hall, hL, hB⟩ := hrel
      by_cases hlt : k < l.length
      ·
        have hlt' : (k : Int) < l.length := by omega
        have hk0 : (0 : Int) ≤ k := by omega
        have hs := sg_some hlt
        obtain ⟨bb, off, rfl, _, hsg⟩ := (HP.out.later (w_below B1.out hB.out)).sg hs
        have SK := Lib.hid hsg
        have CS := Lib.hid (fun W => pcsgn_any (q1, q2, q3, q4) (l.getD k zS) (bef l k) W)
        have HN := Lib.hid (show bef l (k + 1) = nxt (l.getD k zS) from rfl)
        have HER := Lib.hid (show errD (q1, q2, q3, q4) l k = sgnE (q1, q2, q3, q4) (bef l k) (l.getD k zS) from rfl)
        clear hsg hs
        generalize bef l k = cur at *
        generalize hs : l.getD k zS = s at *
        generalize sgnE (q1, q2, q3, q4) cur s = er at *
        have FX0 := Lib.hid (show Below w1.heap.size w1 (wr.alloc (sgO s)) ∧ Cell4 (wr.alloc (sgO s)) bm (q1, q2, q3, q4) ∧ HoldsB (wr.alloc (sgO s)) wr.heap.size 51 (sgA s) ∧ HoldsB (wr.alloc (sgO s)) b 51 (sgA cur) from ⟨w_alloc hB.out _, KM.out _ (w_alloc hB.out _), sg_new wr s, hL.out.al _⟩)
        have hbl := hL.out.lt
        have hsz := hB.out.size
        clear hL hs
        go_upto_region 8 with (first | (refine wl_load (x := .tmp 20) bb (off + k * 17) s (by kernel_rfl) SK.out ?_) | (refine wl_store wr.heap.size _ s rfl (by kernel_rfl) (by kernel_rfl) rfl ?_) | fail)
        obtain ⟨m, hm⟩ : ∃ m, wr.heap.size = m := ⟨_, rfl⟩
        rw [hm] at FX0 hbl hsz ⊢
        generalize World.alloc wr (sgO s) = z at *
        clear hm SK
        refine wp_region_held (S := (fun W => W.cell? ⟨bm, 0, none⟩ = some (.int .i64 q1) ∧ W.cell? ⟨bm, 1, none⟩ = some (.int .i64 q2) ∧ W.cell? ⟨bm, 2, none⟩ = some (.int .i64 q3) ∧ W.cell? ⟨bm, 3, none⟩ = some (.int .i64 q4) ∧ SgAt W m 0 s)) (by kernel_rfl) ?_
        change wpAnyH _ _ _ _ _ _ _ _ (World.drew _)
        have FX := Lib.hid (show Below w1.heap.size w1 (World.drew z) ∧ Cell4 (World.drew z) bm (q1, q2, q3, q4) ∧ HoldsB (World.drew z) m 51 (sgA s) ∧ HoldsB (World.drew z) b 51 (sgA cur) from ⟨w_below FX0.out.1 (w_refl _).drew, FX0.out.2.1.later (w_refl _).drew, FX0.out.2.2.1.later (w_refl _).drew, FX0.out.2.2.2.later (w_refl _).drew⟩)
        clear FX0
        generalize World.drew z = y at *
        refine wpAnyH_take (i := 0) (v := mv (q1, q2, q3, q4)) rfl (by kernel_rfl) (by kernel_rfl) (by kernel_rfl) (fun _ _ _ h => h) (Or.inl ⟨by kernel_rfl, fun W hW => by (obtain ⟨c0, c1, c2, c3, _⟩ := hW; go_simp)⟩) ⟨FX.out.2.1.c0, FX.out.2.1.c1, FX.out.2.1.c2, FX.out.2.1.c3, FX.out.2.2.1.sg⟩ ?_
        refine wpAnyH_take (i := 1) (v := sgv s) rfl (by kernel_rfl) (by kernel_rfl) (by kernel_rfl) (fun _ _ _ h => h) (sg_yields (.tmp 8) m 0 s (by kernel_rfl) rfl (by kernel_rfl) (fun _ h => h.2.2.2.2)) ⟨FX.out.2.1.c0, FX.out.2.1.c1, FX.out.2.1.c2, FX.out.2.1.c3, FX.out.2.2.1.sg⟩ ?_
        refine wpAnyH_take (i := 2) (v := dtF b) rfl (by kernel_rfl) (by kernel_rfl) (by kernel_rfl) (fun _ _ _ h => h) (Or.inl ⟨by kernel_rfl, fun _ _ => by go_simp⟩) ⟨FX.out.2.1.c0, FX.out.2.1.c1, FX.out.2.1.c2, FX.out.2.1.c3, FX.out.2.2.1.sg⟩ ?_
        refine wpAnyH_take (i := 3) (v := sgv s) rfl (by kernel_rfl) (by kernel_rfl) (by kernel_rfl) (fun _ _ _ h => h) (sg_yields (.tmp 8) m 0 s (by kernel_rfl) rfl (by kernel_rfl) (fun _ h => h.2.2.2.2)) ⟨FX.out.2.1.c0, FX.out.2.1.c1, FX.out.2.1.c2, FX.out.2.1.c3, FX.out.2.2.1.sg⟩ ?_
        refine wpAnyH_ready (rs := [4]) (by kernel_rfl) (by simp) ?_
        refine AllReadyH.cons rfl (fun K hK => ?_) AllReadyH.nil
        rw [if_pos (by kernel_rfl)]
        go_simp
        go_at_call 67
        refine (DT.out b cur s _ FX.out.2.2.2).mono ?_
        rintro e y1 ⟨rfl, hH, hG⟩
        replace FX := Lib.hid (show Below w1.heap.size w1 y1 ∧ Cell4 y1 bm (q1, q2, q3, q4) ∧ HoldsB y1 m 51 (sgA s) ∧ HoldsB y1 b 51 (sgA (nxt s)) from ⟨FX.out.1.grown hG FX.out.1.size (fun j e => by injection e with e; omega), FX.out.2.1.kept hG (fun e => by injection e with e; omega), FX.out.2.2.1.kept hG (fun e => by injection e with e; omega), hH⟩)
        clear hH hG DT
        go_simp
        refine hK.out _ _ ⟨FX.out.2.1.c0, FX.out.2.1.c1, FX.out.2.1.c2, FX.out.2.1.c3, FX.out.2.2.1.sg⟩ (fun _ => ?_)
        clear hK K
        refine wpAnyH_ready (rs := [5]) (by kernel_rfl) (by simp) ?_
        refine AllReadyH.cons rfl (fun K hK => ?_) AllReadyH.nil
        rw [if_pos (by kernel_rfl)]
        go_simp
        go_at_call 53
        refine (CS.out _).mono ?_
        rintro e y2 ⟨rfl, hb⟩
        replace FX := Lib.hid (show Below w1.heap.size w1 y2 ∧ Cell4 y2 bm (q1, q2, q3, q4) ∧ HoldsB y2 m 51 (sgA s) ∧ HoldsB y2 b 51 (sgA (nxt s)) from ⟨w_below FX.out.1 hb, FX.out.2.1.later hb, FX.out.2.2.1.later hb, FX.out.2.2.2.later hb⟩)
        clear hb CS
        go_simp
        refine hK.out _ _ ⟨FX.out.2.1.c0, FX.out.2.1.c1, FX.out.2.1.c2, FX.out.2.1.c3, FX.out.2.2.1.sg⟩ (fun _ => ?_)
        clear hK K
        refine wpAnyH_take (i := 6) (v := .int .i64 er) rfl (by kernel_rfl) (by kernel_rfl) (by kernel_rfl) (fun _ _ _ h => h) (Or.inl ⟨by kernel_rfl, fun _ _ => by go_simp⟩) ⟨FX.out.2.1.c0, FX.out.2.1.c1, FX.out.2.1.c2, FX.out.2.1.c3, FX.out.2.2.1.sg⟩ ?_
        refine wpAnyH_done (by kernel_rfl) ?_ _
        by_cases he : er = 0
        · have hall2 := Lib.hid (show ∀ j, j < k + 1 → errD (q1, q2, q3, q4) l j = 0 from fun j hj => by
            by_cases e : j = k
            · rw [e, HER.out]; exact he
            · exact hall.out j (by omega))
          have e1 : (er != 0) = false := by simp [he]
          have HF := Lib.hid (show HoldsB y2 b 51 (sgA (bef l (k + 1))) ∧ Below w1.heap.size w1 y2 from ⟨by rw [HN.out]; exact FX.out.2.2.2, FX.out.1⟩)
          clear HH HO hall he FX HER HN
          go_wp2_with fail
          exact ⟨⟨k + 1, by omega, by go_num, hall2, Lib.hid HF.out.1, Lib.hid HF.out.2⟩, by simp [intOf]; omega⟩
        · have hf := HH.out k hlt (by rw [HER.out]; exact he) hall.out
          rw [HER.out] at hf
          have hfin := Lib.hid hf
          have e1 : (er != 0) = true := by simp [he]
          have HF := Lib.hid (w_below B1.out FX.out.1)
          clear HH HO hall he FX HER HN hf
          go_wp2_with fail
          go_ret
          exact ⟨by rw [hfin.out]; rfl, HF.out⟩
      · have hlt' : ¬ (k : Int) < l.length := by omega
        have hf := HO.out (fun j hj => hall.out j (by omega))
        have hfin := Lib.hid hf
        have HF := Lib.hid (w_below B1.out hB.out)
        clear HH HO hall hf
        go_wp2_with fail
        go_ret
        exact ⟨by rw [hfin.out]; rfl, HF.out⟩
  · rw [chkD_no hq]
    rw [chkM_no hq] at MC
    clear hq DB DT
    obtain ⟨q1, q2, q3, q4⟩ := q
    go_enter Try.func20, Try.ntmps20
    obtain ⟨_, k0, k1, k2, k3, _⟩ := K0.out
    simp only at k0 k1 k2 k3
    go_wp2_with fail
    refine (MC.out _).mono ?_
    rintro e w1 ⟨rfl, hb⟩
    have B1 := Lib.hid (w_below B0.out hb)
    clear hb K0 k0 k1 k2 k3 B0 MC
    go_wp2_with fail
    go_ret
    exact ⟨rfl, B1.out⟩

end Go.Proofs.Ythokapebcplmkaa
