/- The program's Marks. -/
import Derived.Test.YthokapebcplmkaaDMk
import Derived.Test.YthokapebcplmkaaDMnC
import Derived.Test.YthokapebcplmkaaDRefs
import Derived.Test.YthokapebcplmkaaQGrow
namespace Go.Proofs.Ythokapebcplmkaa
open Go.RowKit

set_option maxRecDepth 100000 in
set_option maxHeartbeats 8000000 in
theorem pmks_any (q : Q4) (l : List Sg) (hl : l.length ≤ 1000) (ch : List Int) (p pc : Option Addr) (cap cc : Nat) (w : World) (h : SlP w 17 p l.length cap (flatG l)) (h2 : SlP w 1 pc ch.length cc (ints ch)) :
    Calls Try.prog 26 #[mv q, .slice p l.length cap, .slice pc ch.length cc] w (MkPost q l ch w) := by
  have f1 := h.fit
  have f2 := h.max
  have g1 := h2.fit
  have g2 := h2.max
  have K0 := Lib.hid (Cell4.made w q 23)
  have B0 := Lib.hid (w_alloc (w_refl w) (mO q))
  have HP := Lib.hid h
  have HC := Lib.hid h2
  have MN := Lib.hid (fun W hh => pmns_any q l hl p cap W hh)
  unfold MnPost at MN
  unfold MkPost
  clear h h2
  by_cases hc : chkD q l = 0
  · rw [hc] at MN
    have hLl := mnD_len q l
    have EQ := Lib.hid (fun p cp vs W hh h2 => peq_any (mnD q l) ch (by omega) p pc cp cc vs W hh h2)
    by_cases hok : okC (mnD q l) ch
    · obtain ⟨e1, e2, e3⟩ := mkE_ok hc hok
      rw [e1, e2, e3]
      rw [decide_eq_true hok] at EQ
      obtain ⟨hm, hv⟩ := chkD_zero hc
      have DP := Lib.hid (fun k hk hd => dot_prev hv (k := k) hk hd)
      have hLP := Lib.hid (show ch.length = (mnP q l l.length).length by rw [hok.1, mnD_ok hc])
      have LT := Lib.hid (fun k hk hd => mk_lt q l ch (k := k) hk hd)
      have MLEN := Lib.hid (fun k => mk_len l ch k)
      have MNOT := Lib.hid (fun k hd => mk_not (l := l) (ch := ch) (k := k) hd)
      have MDOT := Lib.hid (fun j h1 h2 => mk_dot (l := l) (ch := ch) (j := j) h1 h2)
      obtain ⟨j0, hj0, hjz, hj1, hj2⟩ := info_parts info_int
      obtain ⟨i0, hi0, hiz, hi1, hi2⟩ := info_parts info_bool
      clear hc e1 e2 e3 hok hm hv
      generalize mnD q l = L at *
      generalize (mnP q l l.length).length = TT at *
      obtain ⟨q1, q2, q3, q4⟩ := q
      go_enter Try.func26, Try.ntmps26
      obtain ⟨_, k0, k1, k2, k3, _⟩ := K0.out
      simp only at k0 k1 k2 k3
      go_wp2_with fail
      refine (MN.out _ (HP.out.later B0.out)).mono ?_
      rintro e w1 ⟨v, rfl, ⟨pl, cl, vs, rfl, hL⟩, hb⟩
      have B1 := Lib.hid (w_below B0.out hb)
      have HL := Lib.hid hL
      have f3 := hL.sl.fit
      have f4 := hL.sl.max
      clear hb k0 k1 k2 k3 K0 B0 MN hL
      go_wp2_with fail
      refine (EQ.out _ _ _ _ HL.out (HC.out.later B1.out)).mono ?_
      rintro e w2 ⟨rfl, rfl⟩
      clear EQ HL
      go_wp2_with fail
      go_loopw [2, 6, 7, 12, 13, 29] (fun s2 s6 s7 _ _ s29 wr => ∃ k : Nat, k ≤ l.length ∧ s29 = .int .i64 k ∧ (∃ pm cm, s2 = .slice pm (ch.length - (mkP l ch k).2.2) cm ∧ Hid (SlP w 1 pm (ch.length - (mkP l ch k).2.2) cm (ints (ch.drop (mkP l ch k).2.2)))) ∧ Hid (CutL w1 wr s6 s7 (mkP l ch k).1 (mkP l ch k).2.1)) (fun _ _ _ _ _ s29 _ => l.length - (intOf s29).toNat)
      case atStart => exact ⟨0, by omega, rfl, ⟨pc, cc, rfl, HC⟩, Lib.hid (CutL.start _)⟩
      case round =>
        rename World => wr
        obtain ⟨k, hk, rfl, ⟨pm, cm, rfl, HM⟩, GV⟩ := hrel
        by_cases hlt : k < l.length
        · have HB1 := B1
          have hlt' : (k : Int) < l.length := by omega
          have hk0 : (0 : Int) ≤ k := by omega
          have hs := sg_some hlt
          obtain ⟨bb, off, rfl, _, hsg⟩ := (HP.out.later (w_below B1.out GV.out.bel)).sg hs
          have SK := Lib.hid hsg
          clear hsg hs
          obtain ⟨hml1, hml2, hml3⟩ := MLEN.out k
          obtain ⟨q6, c6, rfl⟩ := GV.out.v1
          obtain ⟨q7, c7, rfl⟩ := GV.out.v2
          have GA := Lib.hid (GV.out.later (w_alloc (w_refl wr) (sgO (l.getD k zS))))
          have HMA := Lib.hid (HM.out.later (w_alloc (w_below B1.out GV.out.bel) (sgO (l.getD k zS))))
          have HMW := HM
          have H8 := Lib.hid (sg_new wr (l.getD k zS))
          have m1 := HM.out.fit
          have m2 := HM.out.max
          by_cases hd : (l.getD k zS).kind = 3
          · have hd1 : ((l.getD k zS).kind != 3) = false := by rw [hd]; rfl
            obtain ⟨j, hkj, hdj, _⟩ := DP.out k hlt hd
            have hlt2 := LT.out k hlt hd
            rw [hkj] at hd
            obtain ⟨eA, eB⟩ := MDOT.out j hdj hd
            rw [← hkj] at eA eB
            obtain ⟨_, hmj, _⟩ := (MLEN.out j)
            have hEB := Lib.hid eB
            rw [eA] at GA HMA HMW m1 hlt2 hml1 ⊢
            simp only at GA HMA HMW m1 hlt2 hml1
            clear eA eB DP LT MLEN MNOT MDOT hd hdj GV HM hkj hml2 hml3
            generalize l.getD k zS = s at *
            generalize (mkP l ch j).1 = cs at *
            generalize (mkP l ch j).2.1 = bs at *
            generalize (mkP l ch j).2.2 = d at *
            rw [← hLP.out] at hlt2
            have hdrop := drop_get hlt2
            rw [hdrop] at HMA HMW
            have hx := Lib.hid (show ch.length - d = (ch.length - (d + 1)) + 1 by omega)
            obtain ⟨x, hxx⟩ : ∃ x, ch.getD d 0 = x := ⟨_, rfl⟩
            rw [hxx] at HMA HMW hEB
            obtain ⟨zs, hzs⟩ : ∃ zs, ch.drop (d + 1) = zs := ⟨_, rfl⟩
            rw [hzs] at HMA HMW
            obtain ⟨n, hn⟩ : ∃ n, ch.length - (d + 1) = n := ⟨_, rfl⟩
            have hHn := Lib.hid hn
            have hHz := Lib.hid hzs
            rw [hx.out, hn] at HMA HMW m1 ⊢
            clear hxx hzs hn hdrop hx hlt2
            have hcl : (cs ++ [(0 : Int)]).length = cs.length + 1 := by simp
            have hbl : (bs ++ [false]).length = bs.length + 1 := by simp
            rw [hcl] at hml1 ⊢
            rw [hbl] at ⊢
            have r1 := GA.out.r1
            have r2 := GA.out.r2
            rw [hcl] at r1
            rw [hbl] at r2
            obtain ⟨g6, rfl, _⟩ := own_some r1 (by omega)
            obtain ⟨g7, rfl, _⟩ := own_some r2 (by omega)
            obtain ⟨b9, o9, rfl, _, hc9⟩ := HMA.out.at_ (by omega)
            have c9 := hc9 0 (.int .i64 x) rfl
            simp only [Nat.add_zero] at c9
            have c1 := r1.cellAt cs.length (by omega)
            have fr1 := r1.frozenAt cs.length
            have c2 := r2.cellAt cs.length (by omega)
            have fr2 := r2.frozenAt cs.length
            rw [show (ints (cs ++ [0]))[cs.length]? = some (.int .i64 0) by simp] at c1
            rw [show (bools (bs ++ [false]))[cs.length]? = some (.bool false) by simp [← hmj]] at c2
            have S1 := Lib.hid (GA.out.set1 (y := x) hcl)
            have S2 := Lib.hid (GA.out.set2 (y := true) hbl)
            rw [hcl, hbl, hmj] at S1 S2
            obtain ⟨pd, hif⟩ : ∃ pd, (if cm = 1 then (some ⟨b9, o9, none⟩ : Option Addr) else some ⟨b9, o9 + 1, none⟩) = pd := ⟨_, rfl⟩
            have TL := Lib.hid (HMW.out.tailI hif)
            have hb2 := GA.out.bel
            have x1 : IntKind.i64.wrap (((cs.length + 1 : Nat) : Int) - 1) = (cs.length : Int) := by rw [IntWalk.i64_in _ (by omega)]; omega
            have x2 : IntKind.i64.wrap ((cs.length : Int) + 1 - 1) = (cs.length : Int) := by rw [IntWalk.i64_in _ (by omega)]; omega
            have hgb6 : w1.heap.size ≤ g6 := (r1.lt g6 rfl).1
            have hgb7 : w1.heap.size ≤ g7 := (r2.lt g7 rfl).1
            clear r1 r2 hc9 hcl hbl
            go_upto_region 9 with (first | (refine wl_load (x := .tmp 31) bb (off + k * 17) s (by kernel_rfl) SK.out ?_) | (refine wl_store wr.heap.size _ s rfl (by kernel_rfl) (by kernel_rfl) rfl ?_) | fail)
            obtain ⟨m8, hm8⟩ : ∃ m8, wr.heap.size = m8 := ⟨_, rfl⟩
            rw [hm8] at H8 ⊢
            generalize World.alloc wr (sgO s) = z at *
            have e8 := H8.out.cell (j := 0) (v := .int .i64 s.kind) rfl
            clear hm8 SK H8 HMA HMW GA
            by_cases hx0 : x = 0
            · have hx1 : (x == 0) = true := by simp [hx0]
              have HF := Lib.hid (show CutL w1 (z.setCell ⟨g7, cs.length, none⟩ (.bool true)) (.slice (some ⟨g6, 0, none⟩) (cs.length + 1) c6) (.slice (some ⟨g7, 0, none⟩) (cs.length + 1) c7) (cs ++ [x]) (bs ++ [decide (x = 0)]) from by
                rw [hx0, decide_eq_true rfl]
                exact S2.out)
              clear S1 S2 hx0
              go_wp2_with fail
              exact ⟨⟨k + 1, by omega, by go_num, ⟨pd, cm - 1, by rw [hEB.out]; show _ = Value.slice pd (ch.length - (d + 1)) (cm - 1); rw [hHn.out], Lib.hid (by rw [hEB.out]; show SlP w 1 pd (ch.length - (d + 1)) (cm - 1) (ints (ch.drop (d + 1))); rw [hHn.out, hHz.out]; exact TL.out)⟩, Lib.hid (by rw [hEB.out]; exact HF.out)⟩, by simp [intOf]; omega⟩
            · have hx1 : (x == 0) = false := by simp [hx0]
              have HF := Lib.hid (show CutL w1 (z.setCell ⟨g6, cs.length, none⟩ (.int .i64 x)) (.slice (some ⟨g6, 0, none⟩) (cs.length + 1) c6) (.slice (some ⟨g7, 0, none⟩) (cs.length + 1) c7) (cs ++ [x]) (bs ++ [decide (x = 0)]) from by
                rw [decide_eq_false hx0]
                exact S1.out)
              clear S1 S2 hx0
              go_wp2_with fail
              exact ⟨⟨k + 1, by omega, by go_num, ⟨pd, cm - 1, by rw [hEB.out]; show _ = Value.slice pd (ch.length - (d + 1)) (cm - 1); rw [hHn.out], Lib.hid (by rw [hEB.out]; show SlP w 1 pd (ch.length - (d + 1)) (cm - 1) (ints (ch.drop (d + 1))); rw [hHn.out, hHz.out]; exact TL.out)⟩, Lib.hid (by rw [hEB.out]; exact HF.out)⟩, by simp [intOf]; omega⟩
          · have hd1 : ((l.getD k zS).kind != 3) = true := by simpa using hd
            have hEB := Lib.hid (MNOT.out k hd)
            clear DP LT MLEN MNOT MDOT hd GV HMA HM m1 m2
            generalize l.getD k zS = s at *
            generalize hcs : (mkP l ch k).1 = cs at *
            generalize hbs : (mkP l ch k).2.1 = bs at *
            generalize hds : (mkP l ch k).2.2 = d at *
            clear hcs hbs hds
            have hbk : bs.length ≤ k := by omega
            clear hml2
            go_upto_region 9 with (first | (refine wl_load (x := .tmp 31) bb (off + k * 17) s (by kernel_rfl) SK.out ?_) | (refine wl_store wr.heap.size _ s rfl (by kernel_rfl) (by kernel_rfl) rfl ?_) | fail)
            obtain ⟨m8, hm8⟩ : ∃ m8, wr.heap.size = m8 := ⟨_, rfl⟩
            rw [hm8] at H8 ⊢
            generalize World.alloc wr (sgO s) = z at *
            have e8 := H8.out.cell (j := 0) (v := .int .i64 s.kind) rfl
            have R1 := Lib.hid (GA.out.later (w_alloc (w_refl z) (.cells #[.int .i64 0] 3)))
            clear hm8 SK H8 GA
            go_wp2_with (at_builtin; refine wpList_append_own_at _ rfl _ _ 32 rfl w1.heap.size 3 j0 (.int .i64 0) 1 8 Try.underlying32 hj0 hjz hj1 hj2 rfl (by decide) _ cs.length (ints cs) rfl R1.out.r1 ⟨z.heap.size, 0, none⟩ 1 1 (ints [0]) rfl rfl (lit_new _ _ _) (ints_one _) (by unfold maxLen; omega) (by omega) R1.out.bel.size ?_)
            intro v1 w3 hown hgrow _ _
            have R2 := Lib.hid (R1.out.app1 hown rfl hgrow)
            have R3 := Lib.hid (R2.out.later (w_alloc (w_refl w3) (.cells #[.bool false] 4)))
            clear hown hgrow R1 R2 e8
            go_wp2_with (at_builtin; refine wpList_append_own_at _ rfl _ _ 43 rfl w1.heap.size 4 i0 (.bool false) 1 1 Try.underlying43 hi0 hiz hi1 hi2 rfl (by decide) _ bs.length (bools bs) rfl R3.out.r2 ⟨w3.heap.size, 0, none⟩ 1 1 (bools [false]) rfl rfl (lit_new _ _ _) (bools_one _) (by unfold maxLen; omega) (by omega) R3.out.bel.size ?_)
            intro v2 w4 hown hgrow _ _
            have R4 := Lib.hid (R3.out.app2 hown rfl hgrow)
            clear hown hgrow R3
            go_wp2_with fail
            exact ⟨⟨k + 1, by omega, by go_num, ⟨pm, cm, by rw [hEB.out], Lib.hid (by rw [hEB.out]; exact HMW.out)⟩, Lib.hid (by rw [hEB.out]; exact R4.out)⟩, by simp [intOf]; omega⟩
        · obtain rfl : k = l.length := by omega
          have hlt' : ¬ ((l.length : Int) < l.length) := by omega
          obtain ⟨q6, c6, rfl⟩ := GV.out.v1
          obtain ⟨q7, c7, rfl⟩ := GV.out.v2
          have HF := Lib.hid (show IntV wr _ (mkP l ch l.length).1 ∧ BoolV wr _ (mkP l ch l.length).2.1 ∧ Below w.heap.size w wr from ⟨IntV.of_own GV.out.r1, BoolV.of_own GV.out.r2, w_below B1.out GV.out.bel⟩)
          clear GV HM DP LT MLEN MNOT MDOT
          generalize (mkP l ch l.length).1.length = n1 at *
          generalize (mkP l ch l.length).2.1.length = n2 at *
          go_wp2_with fail
          go_ret3
          exact ⟨_, _, rfl, HF.out.1, HF.out.2.1, HF.out.2.2⟩
    · obtain ⟨e1, e2, e3⟩ := mkE_no hc hok
      rw [e1, e2, e3]
      rw [decide_eq_false hok] at EQ
      clear hc e1 e2 e3 hok
      generalize mnD q l = L at *
      obtain ⟨q1, q2, q3, q4⟩ := q
      go_enter Try.func26, Try.ntmps26
      obtain ⟨_, k0, k1, k2, k3, _⟩ := K0.out
      simp only at k0 k1 k2 k3
      go_wp2_with fail
      refine (MN.out _ (HP.out.later B0.out)).mono ?_
      rintro e w1 ⟨v, rfl, ⟨pl, cl, vs, rfl, hL⟩, hb⟩
      have B1 := Lib.hid (w_below B0.out hb)
      have HL := Lib.hid hL
      have f3 := hL.sl.fit
      have f4 := hL.sl.max
      clear hb k0 k1 k2 k3 K0 B0 MN hL
      go_wp2_with fail
      refine (EQ.out _ _ _ _ HL.out (HC.out.later B1.out)).mono ?_
      rintro e w2 ⟨rfl, rfl⟩
      clear EQ HL
      go_wp2_with fail
      go_ret3
      exact ⟨_, _, rfl, IntV.none _, BoolV.none _, B1.out⟩
  · obtain ⟨e1, e2, e3⟩ := mkE_err (ch := ch) hc
    rw [e1, e2, e3]
    have h1 : (chkD q l != 0) = true := by simp [hc]
    have h2 : (chkD q l == 0) = false := by simp [hc]
    clear hc e1 e2 e3
    generalize chkD q l = E at *
    generalize mnD q l = L at *
    obtain ⟨q1, q2, q3, q4⟩ := q
    go_enter Try.func26, Try.ntmps26
    obtain ⟨_, k0, k1, k2, k3, _⟩ := K0.out
    simp only at k0 k1 k2 k3
    go_wp2_with fail
    refine (MN.out _ (HP.out.later B0.out)).mono ?_
    rintro e w1 ⟨v, rfl, ⟨pl, cl, vs, rfl, hL⟩, hb⟩
    have B1 := Lib.hid (w_below B0.out hb)
    have HL := Lib.hid hL
    have f3 := hL.sl.fit
    have f4 := hL.sl.max
    clear hb k0 k1 k2 k3 K0 B0 MN hL
    go_wp2_with fail
    go_ret3
    exact ⟨_, _, rfl, IntV.none _, BoolV.none _, B1.out⟩

end Go.Proofs.Ythokapebcplmkaa

/- The reference's Marks. -/
namespace Go.Proofs.Ythokapebcplmkaa
open Go.RowKit

set_option maxRecDepth 100000 in
set_option maxHeartbeats 8000000 in
theorem rmks_any (q : Q4) (l : List Sg) (hl : l.length ≤ 1000) (ch : List Int) (p pc : Option Addr) (cap cc : Nat) (w : World) (h : SlP w 17 p l.length cap (flatG l)) (h2 : SlP w 1 pc ch.length cc (ints ch)) :
    Calls Try.prog 27 #[mv q, .slice p l.length cap, .slice pc ch.length cc] w (MkPost q l ch w) := by
  have f1 := h.fit
  have f2 := h.max
  have g1 := h2.fit
  have g2 := h2.max
  have K0 := Lib.hid (Cell4.made w q 23)
  have B0 := Lib.hid (w_alloc (w_refl w) (mO q))
  have HP := Lib.hid h
  have HC := Lib.hid h2
  have MN := Lib.hid (fun W hh => rmns_any q l hl p cap W hh)
  have IS := Lib.hid (fun p cap zs x W hh => ris_any p cap zs x W hh)
  unfold MnPost at MN
  unfold MkPost
  clear h h2
  by_cases hc : chkD q l = 0
  · rw [hc] at MN
    have hLl := mnD_len q l
    by_cases hln : ch.length = (mnD q l).length
    · have hln1 : ((ch.length : Int) != ((mnD q l).length : Int)) = false := by simp; omega
      have hln2 := Lib.hid hln
      have NOT := Lib.hid (fun i hi (h : ¬ ch.getD i 0 ∈ (mnD q l).getD i []) => mkE_no hc (fun k : okC (mnD q l) ch => h (k.2 i hi)))
      have YES := Lib.hid (fun hall => mkE_ok hc (show okC (mnD q l) ch from ⟨hln, hall⟩))
      obtain ⟨hm, hv⟩ := chkD_zero hc
      have DP := Lib.hid (fun k hk hd => dot_prev hv (k := k) hk hd)
      have hLP := Lib.hid (show ch.length = (mnP q l l.length).length by rw [hln, mnD_ok hc])
      have LT := Lib.hid (fun k hk hd => mk_lt q l ch (k := k) hk hd)
      have MLEN := Lib.hid (fun k => mk_len l ch k)
      have MNOT := Lib.hid (fun k hd => mk_not (l := l) (ch := ch) (k := k) hd)
      have MDOT := Lib.hid (fun j h1 h2 => mk_dot (l := l) (ch := ch) (j := j) h1 h2)
      obtain ⟨j0, hj0, hjz, hj1, hj2⟩ := info_parts info_int
      obtain ⟨i0, hi0, hiz, hi1, hi2⟩ := info_parts info_bool
      clear hc hm hv hln
      generalize mkE q l ch = EE at *
      generalize mkC q l ch = CC at *
      generalize mkA q l ch = AA at *
      generalize mnD q l = L at *
      generalize (mnP q l l.length).length = TT at *
      obtain ⟨q1, q2, q3, q4⟩ := q
      go_enter Try.func27, Try.ntmps27
      obtain ⟨_, k0, k1, k2, k3, _⟩ := K0.out
      simp only at k0 k1 k2 k3
      go_wp2_with fail
      refine (MN.out _ (HP.out.later B0.out)).mono ?_
      rintro e w1 ⟨v, rfl, ⟨pl, cl, vs, rfl, hL⟩, hb⟩
      have B1 := Lib.hid (w_below B0.out hb)
      have HL := Lib.hid hL
      have f3 := hL.sl.fit
      have f4 := hL.sl.max
      clear hb k0 k1 k2 k3 K0 B0 MN hL
      go_wp2_with fail
      go_loopw [11] (fun i wr => ∃ k : Nat, k ≤ L.length ∧ i = .int .i64 k ∧ Hid (∀ i, i < k → ch.getD i 0 ∈ L.getD i []) ∧ Hid (Below w1.heap.size w1 wr)) (fun i _ => L.length - (intOf i).toNat)
      case atStart => exact ⟨0, by omega, rfl, Lib.hid (fun j hj => by omega), Lib.hid (w_refl _)⟩
      case round =>
        rename World => wr
        obtain ⟨k, hk, rfl, hall, B⟩ := hrel
        by_cases hlt : k < L.length
        · have hlt' : (k : Int) < L.length := by omega
          have hk0 : (0 : Int) ≤ k := by omega
          have hkc : k < ch.length := by rw [hln2.out]; exact hlt
          have hkc' : (k : Int) < ch.length := by omega
          have hLr := HL.out.later B.out
          have hCr := HC.out.later (w_below B1.out B.out)
          obtain ⟨b, off, rfl, _, _⟩ := hLr.sl.at_ (by omega)
          obtain ⟨b2, off2, rfl, _, _⟩ := hCr.at_ (by omega)
          obtain ⟨u, hu, pu, cu, rfl, hus⟩ := hLr.at_ k _ (List.getElem?_eq_getElem hlt)
          have c0 := cell_at hLr.sl hu
          have c1 := int_at hCr hkc
          have hgD : L.getD k [] = L[k] := by rw [List.getD_eq_getElem?_getD, List.getElem?_eq_getElem hlt]; rfl
          have hALL := Lib.hid (show ch.getD k 0 ∈ L[k] → ∀ i, i < k + 1 → ch.getD i 0 ∈ L.getD i [] from fun hin i hi => by
            by_cases e : i = k
            · rw [e, hgD]; exact hin
            · exact hall.out i (by omega))
          have hNO := Lib.hid (fun h => NOT.out k hlt (by rw [hgD]; exact h))
          obtain ⟨x, hx⟩ : ∃ x, ch.getD k 0 = x := ⟨_, rfl⟩
          rw [hx] at c1 hALL hNO
          have KS := Lib.hid (show ∀ n : Grown wr, Calls Try.prog 59 #[.slice pu L[k].length cu, .int .i64 x] n.W fun e w' => e = .returned (.bool (decide (x ∈ L[k]))) ∧ Grew wr w' from fun n => (IS.out _ _ _ _ n.W (hus.later n.b)).mono fun e w' ⟨h1, h2⟩ => ⟨h1, n, h2.symm⟩)
          have t0 : ∀ n : Grown wr, n.W.cell? ⟨b, off + k, none⟩ = some (.slice pu L[k].length cu) := fun n => cell_later n.b c0
          have t1 : ∀ n : Grown wr, n.W.cell? ⟨b2, off2 + k, none⟩ = some (.int .i64 x) := fun n => cell_later n.b c1
          clear hx hkc hu hus hgD hLr hCr c0 c1 NOT YES IS DP LT MLEN MNOT MDOT
          generalize L[k] = X at *
          by_cases hin : x ∈ X
          · have hall2 := Lib.hid (hALL.out hin)
            have hd : decide (x ∈ X) = true := decide_eq_true hin
            rw [hd] at KS
            clear hALL hNO hin hd
            generalize X.length = xl at *
            go_wp2_with fail
            refine wp_region_grown (by kernel_rfl) (by kernel_rfl) ?_
            repeat (go_big_quiet_step (exact KS.out _))
            refine wpQuiet_nil ?_
            intro n
            have hB := Lib.hid (w_below B.out n.b)
            clear KS t0 t1
            go_wp2_with fail
            exact ⟨⟨k + 1, by omega, by go_num, hall2, hB⟩, by simp [intOf]; omega⟩
          · obtain ⟨e1, e2, e3⟩ := hNO.out hin
            have hfin := Lib.hid (show EE = 2 ∧ CC = [] ∧ AA = [] from ⟨e1, e2, e3⟩)
            have hd : decide (x ∈ X) = false := decide_eq_false hin
            rw [hd] at KS
            clear hALL hNO hin hd e1 e2 e3
            generalize X.length = xl at *
            go_wp2_with fail
            refine wp_region_grown (by kernel_rfl) (by kernel_rfl) ?_
            repeat (go_big_quiet_step (exact KS.out _))
            refine wpQuiet_nil ?_
            intro n
            have hB := Lib.hid (w_below B1.out (w_below B.out n.b))
            clear KS t0 t1
            go_wp2_with fail
            go_ret3
            exact ⟨_, _, by rw [hfin.out.1]; rfl, by rw [hfin.out.2.1]; exact IntV.none _, by rw [hfin.out.2.2]; exact BoolV.none _, hB.out⟩
        · obtain rfl : k = L.length := by omega
          have hlt' : ¬ ((L.length : Int) < L.length) := by omega
          obtain ⟨e1, e2, e3⟩ := YES.out hall.out
          have hfin := Lib.hid (show EE = 0 ∧ CC = (mkP l ch l.length).1 ∧ AA = (mkP l ch l.length).2.1 from ⟨e1, e2, e3⟩)
          have BW := Lib.hid (w_below B1.out B.out)
          clear NOT YES IS e1 e2 e3 hall HL B B1
          go_wp2_with fail
          go_loopw [12, 13, 14, 15] (fun s12 s13 s14 s15 wy => ∃ k : Nat, k ≤ l.length ∧ s15 = .int .i64 k ∧ s14 = .int .i64 ((mkP l ch k).2.2 : Int) ∧ Hid (CutL wr wy s12 s13 (mkP l ch k).1 (mkP l ch k).2.1)) (fun _ _ _ s15 _ => l.length - (intOf s15).toNat)
          case atStart => exact ⟨0, by omega, rfl, rfl, Lib.hid (CutL.start _)⟩
          case round =>
            rename World => wy
            obtain ⟨k, hk, rfl, rfl, GV⟩ := hrel
            obtain ⟨q6, c6, rfl⟩ := GV.out.v1
            obtain ⟨q7, c7, rfl⟩ := GV.out.v2
            by_cases hlt : k < l.length
            · have hlt' : (k : Int) < l.length := by omega
              have hk0 : (0 : Int) ≤ k := by omega
              have hs := sg_some hlt
              obtain ⟨bb, off, rfl, _, hsg⟩ := (HP.out.later (w_below BW.out GV.out.bel)).sg hs
              have e0 := hsg.e0
              clear hsg hs
              obtain ⟨hml1, hml2, hml3⟩ := MLEN.out k
              by_cases hd : (l.getD k zS).kind = 3
              · rw [hd] at e0
                obtain ⟨j, hkj, hdj, _⟩ := DP.out k hlt hd
                have hlt2 := LT.out k hlt hd
                rw [hkj] at hd
                obtain ⟨eA, eB⟩ := MDOT.out j hdj hd
                rw [← hkj] at eA eB
                obtain ⟨_, hmj, _⟩ := (MLEN.out j)
                have hEB := Lib.hid eB
                have GA := GV
                rw [eA] at GA hlt2 hml1 hml3 ⊢
                simp only at GA hlt2 hml1 hml3
                clear eA eB DP LT MLEN MNOT MDOT hd hdj GV hkj hml2
                generalize (mkP l ch j).1 = cs at *
                generalize (mkP l ch j).2.1 = bs at *
                generalize (mkP l ch j).2.2 = d at *
                rw [← hLP.out] at hlt2
                have hlt3 : (d : Int) < ch.length := by omega
                have hd0 : (0 : Int) ≤ d := by omega
                have hcl : (cs ++ [(0 : Int)]).length = cs.length + 1 := by simp
                have hbl : (bs ++ [false]).length = bs.length + 1 := by simp
                rw [hcl] at hml1 ⊢
                rw [hbl] at ⊢
                have r1 := GA.out.r1
                have r2 := GA.out.r2
                rw [hcl] at r1
                rw [hbl] at r2
                obtain ⟨g6, rfl, _⟩ := own_some r1 (by omega)
                obtain ⟨g7, rfl, _⟩ := own_some r2 (by omega)
                obtain ⟨x, hx⟩ : ∃ x, ch.getD d 0 = x := ⟨_, rfl⟩
                have hCr := HC.out.later (w_below BW.out GA.out.bel)
                obtain ⟨b9, o9, rfl, _, _⟩ := hCr.at_ (by omega)
                have c9 := int_at hCr hlt2
                have c1 := r1.cellAt cs.length (by omega)
                have fr1 := r1.frozenAt cs.length
                rw [show (ints (cs ++ [0]))[cs.length]? = some (.int .i64 0) by simp] at c1
                have S1 := Lib.hid (GA.out.set1 (y := x) hcl)
                have c8 := int_at (HC.out.later (w_below BW.out S1.out.bel)) hlt2
                have r4 := S1.out.r2
                have c2 := r4.cellAt cs.length (by omega)
                have fr2 := r4.frozenAt cs.length
                rw [show (bools (bs ++ [false]))[cs.length]? = some (.bool false) by simp [← hmj]] at c2
                have S2 := Lib.hid (S1.out.set2 (y := decide (x = 0)) hbl)
                rw [hx] at c9 c8 hEB
                rw [hcl, hbl, hmj] at S2
                have x1 : IntKind.i64.wrap (((cs.length + 1 : Nat) : Int) - 1) = (cs.length : Int) := by rw [IntWalk.i64_in _ (by omega)]; omega
                have x2 : IntKind.i64.wrap ((cs.length : Int) + 1 - 1) = (cs.length : Int) := by rw [IntWalk.i64_in _ (by omega)]; omega
                have x3 : IntKind.i64.wrap ((d : Int) + 1) = (d : Int) + 1 := IntWalk.i64_in _ (by omega)
                have hd9 := Lib.hid (show ((d : Int) + 1) = ((d + 1 : Nat) : Int) by omega)
                clear r1 r2 r4 hCr hcl hbl hx hlt2 GA
                obtain ⟨wz, hwz⟩ : ∃ wz, wy.setCell ⟨g6, cs.length, none⟩ (.int .i64 x) = wz := ⟨_, rfl⟩
                rw [hwz] at c8 c2 fr2 S2
                by_cases hx0 : x = 0
                · have hx1 : (x == 0) = true := by simp [hx0]
                  rw [decide_eq_true hx0] at S2
                  have hEB2 := Lib.hid (show mkP l ch (k + 1) = (cs ++ [x], bs ++ [true], d + 1) from by rw [hEB.out, decide_eq_true hx0])
                  clear S1 hx0 hEB
                  go_wp2_with fail
                  exact ⟨⟨k + 1, by omega, by go_num, by rw [hEB2.out]; show _ = Value.int .i64 ((d + 1 : Nat) : Int); rw [← hd9.out], Lib.hid (by rw [hEB2.out, hmj]; exact S2.out)⟩, by simp [intOf]; omega⟩
                · have hx1 : (x == 0) = false := by simp [hx0]
                  rw [decide_eq_false hx0] at S2
                  have hEB2 := Lib.hid (show mkP l ch (k + 1) = (cs ++ [x], bs ++ [false], d + 1) from by rw [hEB.out, decide_eq_false hx0])
                  clear S1 hx0 hEB
                  go_wp2_with fail
                  exact ⟨⟨k + 1, by omega, by go_num, by rw [hEB2.out]; show _ = Value.int .i64 ((d + 1 : Nat) : Int); rw [← hd9.out], Lib.hid (by rw [hEB2.out, hmj]; exact S2.out)⟩, by simp [intOf]; omega⟩
              · have hd1 : ((l.getD k zS).kind != 3) = true := by simpa using hd
                have hEB := Lib.hid (MNOT.out k hd)
                clear DP LT MLEN MNOT MDOT hd
                generalize (l.getD k zS).kind = kk at *
                generalize hcs : (mkP l ch k).1 = cs at *
                generalize hbs : (mkP l ch k).2.1 = bs at *
                generalize hds : (mkP l ch k).2.2 = d at *
                clear hcs hbs hds
                have hbk : bs.length ≤ k := by omega
                clear hml2
                have R1 := Lib.hid (GV.out.later (w_alloc (w_refl wy) (.cells #[.int .i64 0] 3)))
                clear GV
                go_wp2_with (at_builtin; refine wpList_append_own_at _ rfl _ _ 32 rfl wr.heap.size 3 j0 (.int .i64 0) 1 8 Try.underlying32 hj0 hjz hj1 hj2 rfl (by decide) _ cs.length (ints cs) rfl R1.out.r1 ⟨wy.heap.size, 0, none⟩ 1 1 (ints [0]) rfl rfl (lit_new _ _ _) (ints_one _) (by unfold maxLen; omega) (by omega) R1.out.bel.size ?_)
                intro v1 w3 hown hgrow _ _
                have R2 := Lib.hid (R1.out.app1 hown rfl hgrow)
                have R3 := Lib.hid (R2.out.later (w_alloc (w_refl w3) (.cells #[.bool false] 4)))
                clear hown hgrow R1 R2 e0
                go_wp2_with (at_builtin; refine wpList_append_own_at _ rfl _ _ 43 rfl wr.heap.size 4 i0 (.bool false) 1 1 Try.underlying43 hi0 hiz hi1 hi2 rfl (by decide) _ bs.length (bools bs) rfl R3.out.r2 ⟨w3.heap.size, 0, none⟩ 1 1 (bools [false]) rfl rfl (lit_new _ _ _) (bools_one _) (by unfold maxLen; omega) (by omega) R3.out.bel.size ?_)
                intro v2 w4 hown hgrow _ _
                have R4 := Lib.hid (R3.out.app2 hown rfl hgrow)
                clear hown hgrow R3
                go_wp2_with fail
                exact ⟨⟨k + 1, by omega, by go_num, by rw [hEB.out], Lib.hid (by rw [hEB.out]; exact R4.out)⟩, by simp [intOf]; omega⟩
            · obtain rfl : k = l.length := by omega
              have hlt' : ¬ ((l.length : Int) < l.length) := by omega
              have HF := Lib.hid (show IntV wy _ (mkP l ch l.length).1 ∧ BoolV wy _ (mkP l ch l.length).2.1 ∧ Below w.heap.size w wy from ⟨IntV.of_own GV.out.r1, BoolV.of_own GV.out.r2, w_below BW.out GV.out.bel⟩)
              clear GV DP LT MLEN MNOT MDOT
              rw [← hfin.out.2.1, ← hfin.out.2.2] at HF
              rw [← hfin.out.2.1, ← hfin.out.2.2]
              generalize (mkP l ch l.length).2.2 = d at *
              go_wp2_with fail
              go_ret3
              exact ⟨_, _, by rw [hfin.out.1]; rfl, HF.out.1, HF.out.2.1, HF.out.2.2⟩
    · obtain ⟨e1, e2, e3⟩ := mkE_no (ch := ch) hc (fun k => hln k.1)
      rw [e1, e2, e3]
      have hln1 : ((ch.length : Int) != ((mnD q l).length : Int)) = true := by simp; omega
      clear hc e1 e2 e3 hln
      generalize mnD q l = L at *
      obtain ⟨q1, q2, q3, q4⟩ := q
      go_enter Try.func27, Try.ntmps27
      obtain ⟨_, k0, k1, k2, k3, _⟩ := K0.out
      simp only at k0 k1 k2 k3
      go_wp2_with fail
      refine (MN.out _ (HP.out.later B0.out)).mono ?_
      rintro e w1 ⟨v, rfl, ⟨pl, cl, vs, rfl, hL⟩, hb⟩
      have B1 := Lib.hid (w_below B0.out hb)
      have HL := Lib.hid hL
      have f3 := hL.sl.fit
      have f4 := hL.sl.max
      clear hb k0 k1 k2 k3 K0 B0 MN hL
      go_wp2_with fail
      go_ret3
      exact ⟨_, _, rfl, IntV.none _, BoolV.none _, B1.out⟩
  · obtain ⟨e1, e2, e3⟩ := mkE_err (ch := ch) hc
    rw [e1, e2, e3]
    have h1 : (chkD q l != 0) = true := by simp [hc]
    have h2 : (chkD q l == 0) = false := by simp [hc]
    clear hc e1 e2 e3
    generalize chkD q l = E at *
    generalize mnD q l = L at *
    obtain ⟨q1, q2, q3, q4⟩ := q
    go_enter Try.func27, Try.ntmps27
    obtain ⟨_, k0, k1, k2, k3, _⟩ := K0.out
    simp only at k0 k1 k2 k3
    go_wp2_with fail
    refine (MN.out _ (HP.out.later B0.out)).mono ?_
    rintro e w1 ⟨v, rfl, ⟨pl, cl, vs, rfl, hL⟩, hb⟩
    have B1 := Lib.hid (w_below B0.out hb)
    have HL := Lib.hid hL
    have f3 := hL.sl.fit
    have f4 := hL.sl.max
    clear hb k0 k1 k2 k3 K0 B0 MN hL
    go_wp2_with fail
    go_ret3
    exact ⟨_, _, rfl, IntV.none _, BoolV.none _, B1.out⟩

end Go.Proofs.Ythokapebcplmkaa
