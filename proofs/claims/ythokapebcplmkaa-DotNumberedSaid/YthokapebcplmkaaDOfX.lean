/- The program's Of. -/
import Derived.Test.YthokapebcplmkaaDOf
import Derived.Test.YthokapebcplmkaaDMnC
import Derived.Test.YthokapebcplmkaaDRefs
import Derived.Test.YthokapebcplmkaaQGrow
namespace Go.Proofs.Ythokapebcplmkaa
open Go.RowKit

set_option maxRecDepth 100000 in
set_option maxHeartbeats 8000000 in
theorem pof_any (q : Q4) (l : List Sg) (hl : l.length ≤ 1000) (n : Int) (p : Option Addr) (cap : Nat) (w : World) (h : SlP w 17 p l.length cap (flatG l)) :
    Calls Try.prog 24 #[mv q, .slice p l.length cap, .int .i64 n] w (OfPost q l n w) := by
  obtain ⟨i0, hi0, hz0, hz1, hz2⟩ := info_parts info_int
  have K0 := Lib.hid (Cell4.made w q 23)
  have B0 := Lib.hid (w_alloc (w_refl w) (mO q))
  have HP := Lib.hid h
  have CN := Lib.hid (fun W hh => pcnt_any q l hl p cap W hh)
  have MN := Lib.hid (fun W hh => pmns_any q l hl p cap W hh)
  unfold MnPost at MN
  clear h
  unfold OfPost
  by_cases hc : (cntD q l).2 = 0
  · have hc0 := cnt_ok hc
    by_cases hr : 0 ≤ n ∧ n < (cntD q l).1
    · have hE : ofE q l n = 0 := (if_pos hc).trans (if_pos hr)
      have hD : ofD q l n = ofR (mnD q l) n.toNat := if_pos hE
      rw [hE, hD]
      rw [hc0.1] at MN
      rw [hc] at CN
      have hone : ∀ x ∈ mnD q l, 1 ≤ x.length ∧ x.length ≤ 2 := mnD_one
      obtain ⟨m, rfl⟩ : ∃ m : Nat, n = (m : Int) := ⟨n.toNat, by omega⟩
      rw [Int.toNat_natCast]
      have hc1 := hc0.2.1
      have hc2 := hc0.2.2
      rw [hc1] at CN hr
      have hm : m < prodL (mnD q l) := by omega
      have hLl := mnD_len q l
      have g0 : ¬ (m : Int) < 0 := by omega
      have g1 : ¬ (prodL (mnD q l) : Int) ≤ (m : Int) := by omega
      clear hc hc0 hE hD hr hc1
      generalize mnD q l = L at *
      generalize hPP : prodL L = PP at *
      obtain ⟨q1, q2, q3, q4⟩ := q
      go_enter Try.func24, Try.ntmps24
      obtain ⟨_, k0, k1, k2, k3, _⟩ := K0.out
      simp only at k0 k1 k2 k3
      go_wp2_with fail
      refine (CN.out _ (HP.out.later B0.out)).mono ?_
      rintro e w1 ⟨rfl, hb⟩
      have B1 := Lib.hid (w_below B0.out hb)
      have KM1 := Lib.hid (K0.out.later hb)
      clear hb k0 k1 k2 k3 K0 B0 CN
      obtain ⟨_, k0, k1, k2, k3, _⟩ := KM1.out
      simp only at k0 k1 k2 k3
      clear k0 k1 k2 k3
      obtain ⟨_, k0, k1, k2, k3, _⟩ := KM1.out
      simp only at k0 k1 k2 k3
      go_wp2_with fail
      refine (MN.out _ (HP.out.later B1.out)).mono ?_
      rintro e w2 ⟨v, rfl, ⟨pl, cl, vs, rfl, hL⟩, hb⟩
      have B2 := Lib.hid (w_below B1.out hb)
      have HL := Lib.hid hL
      have f1 := hL.sl.fit
      have f2 := hL.sl.max
      clear hb k0 k1 k2 k3 KM1 B1 MN hL g0 g1
      have CU := Lib.hid (fun p cap vs W hh => pcup_any L (by omega) hone m (by omega) p cap vs W hh)
      have ONE := Lib.hid hone
      clear hone
      go_wp2_with fail
      refine (CU.out _ _ _ _ HL.out).mono ?_
      rintro e w3 ⟨b, rfl, hw, hb⟩
      have B3 := Lib.hid (w_below B2.out hb)
      have HL3 := Lib.hid (HL.out.later hb)
      have HW := Lib.hid (fun W (bb : Below w3.heap.size w3 W) => hw.later bb)
      have hpl := plc_len L m
      clear hb hw CU HL B2
      go_wp2_with fail
      go_loopw [12, 13, 14, 41] (fun s12 _ _ s41 wr => ∃ k : Nat, k ≤ L.length ∧ s41 = .int .i64 k ∧ (∃ q c, s12 = .slice q k c) ∧ Hid (OwnL w3 wr 3 1 s12 k (ints ((ofR L m).take k)))) (fun _ _ _ s41 _ => L.length - (intOf s41).toNat)
      case atStart => exact ⟨0, by omega, rfl, ⟨none, 0, rfl⟩, Lib.hid (OwnL.start _ _ _)⟩
      case round =>
        rename World => wr
        obtain ⟨k, hk, rfl, ⟨q5, c5, rfl⟩, GV⟩ := hrel
        by_cases hlt : k < L.length
        · have hlt' : (k : Int) < L.length := by omega
          have hk0 : (0 : Int) ≤ k := by omega
          have c0 := hold_cell (HW.out _ GV.out.bel) (plc_get L m k hlt)
          have ha : m / tl L (k + 1) % rd L k < rd L k := Nat.mod_lt _ (rd_pos ONE.out hlt).1
          have hof := ofR_get L m k hlt
          have hrr : rd L k = L[k].length := by unfold rd; rw [List.getD_eq_getElem?_getD, List.getElem?_eq_getElem hlt]; rfl
          have hgD : L.getD k [] = L[k] := by rw [List.getD_eq_getElem?_getD, List.getElem?_eq_getElem hlt]; rfl
          rw [hgD] at hof
          generalize m / tl L (k + 1) % rd L k = a at *
          rw [hrr] at ha
          have hLr := HL3.out.later GV.out.bel
          obtain ⟨b1, o1, rfl, _, _⟩ := hLr.sl.at_ (by omega)
          obtain ⟨u, hu, pu, cu, rfl, hus⟩ := hLr.at_ k _ (List.getElem?_eq_getElem hlt)
          have c1 := cell_at hLr.sl hu
          obtain ⟨b2, o2, rfl, _, _⟩ := hus.at_ (by omega)
          have c2 := int_at hus ha
          have ha1 : (a : Int) < (L[k].length : Int) := by omega
          have ha0 : (0 : Int) ≤ a := by omega
          have hT := Lib.hid (show ints ((ofR L m).take (k + 1)) = ints ((ofR L m).take k) ++ ints [L[k].getD a 0] from by rw [List.take_add_one, hof]; exact List.map_append ..)
          have GL := Lib.hid GV.out
          obtain ⟨TK, hTK⟩ : ∃ TK, (ofR L m).take k = TK := ⟨_, rfl⟩
          rw [hTK] at GL hT
          clear hLr hu hus hof hrr hgD GV hTK
          generalize L[k].getD a 0 = X at *
          generalize L[k].length = lk at *
          have LA := Lib.hid (GL.out.later (w_alloc (w_refl wr) (.cells #[.int .i64 X] 3)))
          go_wp2_with (at_builtin; refine wpList_append_own_at _ rfl _ _ 32 rfl w3.heap.size 3 i0 (.int .i64 0) 1 8 Try.underlying32 hi0 hz0 hz1 hz2 rfl (by decide) _ k (ints TK) rfl LA.out.row ⟨wr.heap.size, 0, none⟩ 1 1 (ints [X]) rfl rfl (lit_new _ _ _) (ints_one _) (by unfold maxLen; omega) (by omega) LA.out.bel.size ?_)
          intro v' w4 hown hgrow _ _
          have HN := Lib.hid (show OwnL w3 w4 3 1 v' (k + 1) (ints ((ofR L m).take (k + 1))) from by rw [hT.out]; exact LA.out.app (w_refl _) hown hgrow)
          obtain ⟨q6, c6, rfl⟩ := HN.out.val
          clear hown hgrow LA hT GL
          go_wp2_with fail
          exact ⟨⟨k + 1, by omega, by go_num, ⟨q6, c6, rfl⟩, HN⟩, by simp [intOf]; omega⟩
        · obtain rfl : k = L.length := by omega
          have hlt' : ¬ ((L.length : Int) < L.length) := by omega
          have HF := Lib.hid (show IntV wr (.slice q5 L.length c5) (ofR L m) ∧ Below w.heap.size w wr from ⟨by
            have hr := GV.out.row
            rw [List.take_of_length_le (by rw [ofR_len]; exact Nat.le_refl _)] at hr
            have hq : (ofR L m).length = L.length := ofR_len L m
            rw [← hq] at hr ⊢
            exact IntV.of_own hr, w_below B3.out GV.out.bel⟩)
          clear GV
          go_wp2_with fail
          go_ret2
          exact ⟨_, rfl, HF.out.1, HF.out.2⟩
    · have hE : ofE q l n = 2 := (if_pos hc).trans (if_neg hr)
      have hD : ofD q l n = [] := if_neg (by rw [hE]; decide)
      rw [hE, hD]
      rw [hc] at CN
      clear MN hE hD hc0 hc
      by_cases g0 : n < 0
      · clear hr
        generalize (cntD q l).1 = N1 at *
        obtain ⟨q1, q2, q3, q4⟩ := q
        go_enter Try.func24, Try.ntmps24
        obtain ⟨_, k0, k1, k2, k3, _⟩ := K0.out
        simp only at k0 k1 k2 k3
        go_wp2_with fail
        refine (CN.out _ (HP.out.later B0.out)).mono ?_
        rintro e w1 ⟨rfl, hb⟩
        have B1 := Lib.hid (w_below B0.out hb)
        have KM1 := Lib.hid (K0.out.later hb)
        clear hb k0 k1 k2 k3 K0 B0 CN
        obtain ⟨_, k0, k1, k2, k3, _⟩ := KM1.out
        simp only at k0 k1 k2 k3
        clear k0 k1 k2 k3
        go_wp2_with fail
        go_ret2
        exact ⟨_, rfl, IntV.none _, B1.out⟩
      · have g1 : (cntD q l).1 ≤ n := by omega
        clear hr
        generalize (cntD q l).1 = N1 at *
        obtain ⟨q1, q2, q3, q4⟩ := q
        go_enter Try.func24, Try.ntmps24
        obtain ⟨_, k0, k1, k2, k3, _⟩ := K0.out
        simp only at k0 k1 k2 k3
        go_wp2_with fail
        refine (CN.out _ (HP.out.later B0.out)).mono ?_
        rintro e w1 ⟨rfl, hb⟩
        have B1 := Lib.hid (w_below B0.out hb)
        have KM1 := Lib.hid (K0.out.later hb)
        clear hb k0 k1 k2 k3 K0 B0 CN
        obtain ⟨_, k0, k1, k2, k3, _⟩ := KM1.out
        simp only at k0 k1 k2 k3
        clear k0 k1 k2 k3
        go_wp2_with fail
        go_ret2
        exact ⟨_, rfl, IntV.none _, B1.out⟩
  · have hE : ofE q l n = (cntD q l).2 := if_neg hc
    have hD : ofD q l n = [] := if_neg (by rw [hE]; exact hc)
    rw [hE, hD]
    have e1 : ((cntD q l).2 != 0) = true := by simp [hc]
    have e2 : ((cntD q l).2 == 0) = false := by simp [hc]
    clear MN hE hD hc
    generalize (cntD q l).1 = N1 at *
    generalize (cntD q l).2 = N2 at *
    obtain ⟨q1, q2, q3, q4⟩ := q
    go_enter Try.func24, Try.ntmps24
    obtain ⟨_, k0, k1, k2, k3, _⟩ := K0.out
    simp only at k0 k1 k2 k3
    go_wp2_with fail
    refine (CN.out _ (HP.out.later B0.out)).mono ?_
    rintro e w1 ⟨rfl, hb⟩
    have B1 := Lib.hid (w_below B0.out hb)
    have KM1 := Lib.hid (K0.out.later hb)
    clear hb k0 k1 k2 k3 K0 B0 CN
    obtain ⟨_, k0, k1, k2, k3, _⟩ := KM1.out
    simp only at k0 k1 k2 k3
    clear k0 k1 k2 k3
    go_wp2_with fail
    go_ret2
    exact ⟨_, rfl, IntV.none _, B1.out⟩

end Go.Proofs.Ythokapebcplmkaa

/- The reference's Of. -/
namespace Go.Proofs.Ythokapebcplmkaa
open Go.RowKit

set_option maxRecDepth 100000 in
set_option maxHeartbeats 8000000 in
theorem rof_any (q : Q4) (l : List Sg) (hl : l.length ≤ 1000) (n : Int) (p : Option Addr) (cap : Nat) (w : World) (h : SlP w 17 p l.length cap (flatG l)) :
    Calls Try.prog 25 #[mv q, .slice p l.length cap, .int .i64 n] w (OfPost q l n w) := by
  obtain ⟨i0, hi0, hz0, hz1, hz2⟩ := info_parts info_int
  have K0 := Lib.hid (Cell4.made w q 23)
  have B0 := Lib.hid (w_alloc (w_refl w) (mO q))
  have HP := Lib.hid h
  have CN := Lib.hid (fun W hh => rcnt_any q l hl p cap W hh)
  have MN := Lib.hid (fun W hh => rmns_any q l hl p cap W hh)
  unfold MnPost at MN
  clear h
  unfold OfPost
  by_cases hc : (cntD q l).2 = 0
  · have hc0 := cnt_ok hc
    by_cases hr : 0 ≤ n ∧ n < (cntD q l).1
    · have hE : ofE q l n = 0 := (if_pos hc).trans (if_pos hr)
      have hD : ofD q l n = ofR (mnD q l) n.toNat := if_pos hE
      rw [hE, hD]
      rw [hc0.1] at MN
      rw [hc] at CN
      have hone : ∀ x ∈ mnD q l, 1 ≤ x.length ∧ x.length ≤ 2 := mnD_one
      obtain ⟨m, rfl⟩ : ∃ m : Nat, n = (m : Int) := ⟨n.toNat, by omega⟩
      rw [Int.toNat_natCast]
      have hc1 := hc0.2.1
      have hc2 := hc0.2.2
      rw [hc1] at CN hr
      have hm : m < prodL (mnD q l) := by omega
      have hLl := mnD_len q l
      have g0 : ¬ (m : Int) < 0 := by omega
      have g1 : ¬ (prodL (mnD q l) : Int) ≤ (m : Int) := by omega
      clear hc hc0 hE hD hr hc1
      generalize mnD q l = L at *
      generalize hPP : prodL L = PP at *
      obtain ⟨q1, q2, q3, q4⟩ := q
      go_enter Try.func25, Try.ntmps25
      obtain ⟨_, k0, k1, k2, k3, _⟩ := K0.out
      simp only at k0 k1 k2 k3
      go_wp2_with fail
      refine (CN.out _ (HP.out.later B0.out)).mono ?_
      rintro e w1 ⟨rfl, hb⟩
      have B1 := Lib.hid (w_below B0.out hb)
      have KM1 := Lib.hid (K0.out.later hb)
      clear hb k0 k1 k2 k3 K0 B0 CN
      obtain ⟨_, k0, k1, k2, k3, _⟩ := KM1.out
      simp only at k0 k1 k2 k3
      clear k0 k1 k2 k3
      obtain ⟨_, k0, k1, k2, k3, _⟩ := KM1.out
      simp only at k0 k1 k2 k3
      go_wp2_with fail
      refine (MN.out _ (HP.out.later B1.out)).mono ?_
      rintro e w2 ⟨v, rfl, ⟨pl, cl, vs, rfl, hL⟩, hb⟩
      have B2 := Lib.hid (w_below B1.out hb)
      have HL := Lib.hid hL
      have f1 := hL.sl.fit
      have f2 := hL.sl.max
      clear hb k0 k1 k2 k3 KM1 B1 MN hL g0 g1
      have ONE := Lib.hid hone
      clear hone
      have mk := fun W => make_ints L.length (by omega) W
      have HW := Lib.hid (HoldsB.new w2 3 (ints (List.replicate L.length 0)).toArray)
      have BM := Lib.hid (w_alloc B2.out (.cells (ints (List.replicate L.length 0)).toArray 3))
      have HL3 := Lib.hid (HL.out.later (w_alloc (w_refl w2) (.cells (ints (List.replicate L.length 0)).toArray 3)))
      rw [← fil_full L m] at mk HW BM HL3
      generalize hbv : w2.heap.size = bv at *
      have hbel := Lib.hid (show w.heap.size ≤ bv from by rw [← hbv]; exact B2.out.size)
      have hbel2 := Lib.hid (Nat.le_of_eq hbv)
      have HL4 := Lib.hid HL.out
      have x1 : IntKind.i64.wrap ((L.length : Int) - 1) = (L.length : Int) - 1 := IntWalk.i64_in _ (by omega)
      have B2' := Lib.hid B2.out
      clear HL B2
      go_wp2_with fail
      clear mk
      go_loopg [2, 13] L.length (fun c s2 s13 wr => c ≤ L.length ∧ s13 = .int .i64 ((c : Int) - 1) ∧ s2 = .int .i64 ((m / tl L c : Nat) : Int) ∧ Hid (HoldsB wr bv 3 (ints (fil L m c)).toArray) ∧ Hid (Below w2.heap.size w2 wr))
      case atStart => exact ⟨Nat.le_refl _, rfl, by rw [tl_end, Nat.div_one], HW, Lib.hid (w_alloc (w_refl w2) _)⟩
      case round =>
        clear HW HL3
        obtain ⟨hc, rfl, rfl, HW, B⟩ := hrel
        cases gk with
        | succ d =>
          have hdl : d < L.length := by omega
          have hdl2 : (d : Int) < L.length := by omega
          have hd0 : (0 : Int) ≤ d := by omega
          have e6 : ((d + 1 : Nat) : Int) - 1 = (d : Int) := by omega
          rw [e6]
          have hFS := Lib.hid (fil_set (L := L) (n := m) hdl)
          have hDD := Lib.hid (div_down (L := L) (n := m) hdl)
          have hr1 := (rd_pos ONE.out hdl).1
          have hr2 := (rd_pos ONE.out hdl).2
          have hrr : rd L d = L[d].length := by unfold rd; rw [List.getD_eq_getElem?_getD, List.getElem?_eq_getElem hdl]; rfl
          have hgD : L.getD d [] = L[d] := by rw [List.getD_eq_getElem?_getD, List.getElem?_eq_getElem hdl]; rfl
          have hmd : m / tl L (d + 1) ≤ m := Nat.div_le_self _ _
          rw [hgD, hrr] at hFS
          rw [hrr] at hDD hr1 hr2
          generalize hND : m / tl L (d + 1) = nd at *
          have ha : nd % L[d].length < L[d].length := Nat.mod_lt _ hr1
          have hLr := HL4.out.later B.out
          obtain ⟨b1, o1, rfl, _, _⟩ := hLr.sl.at_ (by omega)
          obtain ⟨u, hu, pu, cu, rfl, hus⟩ := hLr.at_ d _ (List.getElem?_eq_getElem hdl)
          have c1 := cell_at hLr.sl hu
          obtain ⟨b2, o2, rfl, _, _⟩ := hus.at_ (by omega)
          have c2 := int_at hus ha
          have ha1 : ((nd % L[d].length : Nat) : Int) < (L[d].length : Int) := by omega
          have ha0 : (0 : Int) ≤ ((nd % L[d].length : Nat) : Int) := by omega
          have hRM : (nd : Int).tmod (L[d].length : Int) = ((nd % L[d].length : Nat) : Int) := by rw [Int.tmod_eq_emod_of_nonneg (by omega)]; rfl
          have hRD : (nd : Int).tdiv (L[d].length : Int) = ((nd / L[d].length : Nat) : Int) := by rw [Int.tdiv_eq_ediv_of_nonneg (by omega)]; rfl
          have hRM2 : (nd : Int) % (L[d].length : Int) = ((nd % L[d].length : Nat) : Int) := rfl
          have hRD2 : (nd : Int) / (L[d].length : Int) = ((nd / L[d].length : Nat) : Int) := rfl
          have hdle : nd / L[d].length ≤ nd := Nat.div_le_self _ _
          have hld0 : ((L[d].length : Nat) : Int) ≠ 0 := by omega
          have hld1 : (((L[d].length : Nat) : Int) == 0) = false := beq_eq_false_iff_ne.2 hld0
          have hldp : (0 : Int) < ((L[d].length : Nat) : Int) := by omega
          have hnd0 : (0 : Int) ≤ (nd : Int) := by omega
          have C1 := Lib.hid (fun W (b : Below w2.heap.size w2 W) => cell_at (HL4.out.later b).sl hu)
          generalize L[d].getD (nd % L[d].length) 0 = X at *
          generalize nd % L[d].length = a at *
          generalize nd / L[d].length = dq at *
          generalize L[d].length = ld at *
          have u1 : ∀ n : Grown wr, n.W.cell? ⟨b1, o1 + d, none⟩ = some (.slice (some ⟨b2, o2, none⟩) ld cu) := fun n => cell_later n.b c1
          have u2 : ∀ n : Grown wr, n.W.cell? ⟨b2, o2 + a, none⟩ = some (.int .i64 X) := fun n => cell_later n.b c2
          have hwr := Lib.hid (fil_len L m (d + 1) (by omega))
          have x3 : IntKind.i64.wrap ((d : Int) - 1) = (d : Int) - 1 := IntWalk.i64_in _ (by omega)
          have x4 : IntKind.i64.wrap (a : Int) = (a : Int) := IntWalk.i64_in _ (by omega)
          have x5 : IntKind.i64.wrap (dq : Int) = (dq : Int) := IntWalk.i64_in _ (by omega)
          clear hLr hu hus c1 c2 hND hr1 hrr hgD e6 ha hmd
          go_wp2_with fail
          refine wp_region_last_lit (by simp) (by kernel_rfl) (by kernel_rfl) (by kernel_rfl) (by kernel_rfl) (by kernel_rfl) (by kernel_rfl) ?_
          simp only [List.dropLast_cons_cons, List.dropLast_singleton, List.getLast_cons_cons, List.getLast_singleton]
          repeat (go_big_quiet_step (fail))
          refine wpQuiet_nil ?_
          intro g
          have HWg := HW.out.later g.b
          have Bg := w_below B.out g.b
          have fr := HWg.frozen d
          have cw : g.W.cell? ⟨bv, d, none⟩ = some (.int .i64 ((fil L m (d + 1)).getD d 0)) := hold_cell HWg (by rw [List.getD_eq_getElem?_getD, List.getElem?_eq_getElem (by rw [hwr.out]; exact hdl)]; rfl)
          have HN := Lib.hid (show HoldsB (g.W.setCell ⟨bv, d, none⟩ (.int .i64 X)) bv 3 (ints (fil L m d)).toArray from by rw [← hFS.out]; exact hold_set HWg d X)
          have BN := Lib.hid (w_put Bg hbel2.out d (.int .i64 X))
          have c9 := C1.out _ BN.out
          clear u1 u2 HWg Bg hFS C1 hwr
          generalize g.W = W at *
          generalize (fil L m (d + 1)).getD d 0 = X0 at *
          go_wp2_with fail
          go_roundg d
          case measure => omega
          case rel => exact ⟨by omega, by go_num, by rw [← hDD.out], HN, BN⟩
        | zero =>
          have HF := Lib.hid (show IntV wr (.slice (some ⟨bv, 0, none⟩) L.length L.length) (ofR L m) ∧ Below w.heap.size w wr from ⟨by
            have hq : (ofR L m).length = L.length := ofR_len L m
            have := hold_int HW.out (by rw [fil_zero, hq]; omega)
            rw [fil_zero, hq] at this
            exact ⟨_, L.length, by rw [hq], by rw [hq]; exact this⟩, w_below B2'.out B.out⟩)
          clear HW
          go_wp2_with fail
          try rw [Exit.noGoto_ret]
          go_ret2
          exact ⟨_, rfl, HF.out.1, HF.out.2⟩
    · have hE : ofE q l n = 2 := (if_pos hc).trans (if_neg hr)
      have hD : ofD q l n = [] := if_neg (by rw [hE]; decide)
      rw [hE, hD]
      rw [hc] at CN
      clear MN hE hD hc0 hc
      by_cases g0 : n < 0
      · clear hr
        generalize (cntD q l).1 = N1 at *
        obtain ⟨q1, q2, q3, q4⟩ := q
        go_enter Try.func25, Try.ntmps25
        obtain ⟨_, k0, k1, k2, k3, _⟩ := K0.out
        simp only at k0 k1 k2 k3
        go_wp2_with fail
        refine (CN.out _ (HP.out.later B0.out)).mono ?_
        rintro e w1 ⟨rfl, hb⟩
        have B1 := Lib.hid (w_below B0.out hb)
        have KM1 := Lib.hid (K0.out.later hb)
        clear hb k0 k1 k2 k3 K0 B0 CN
        obtain ⟨_, k0, k1, k2, k3, _⟩ := KM1.out
        simp only at k0 k1 k2 k3
        clear k0 k1 k2 k3
        go_wp2_with fail
        go_ret2
        exact ⟨_, rfl, IntV.none _, B1.out⟩
      · have g1 : (cntD q l).1 ≤ n := by omega
        clear hr
        generalize (cntD q l).1 = N1 at *
        obtain ⟨q1, q2, q3, q4⟩ := q
        go_enter Try.func25, Try.ntmps25
        obtain ⟨_, k0, k1, k2, k3, _⟩ := K0.out
        simp only at k0 k1 k2 k3
        go_wp2_with fail
        refine (CN.out _ (HP.out.later B0.out)).mono ?_
        rintro e w1 ⟨rfl, hb⟩
        have B1 := Lib.hid (w_below B0.out hb)
        have KM1 := Lib.hid (K0.out.later hb)
        clear hb k0 k1 k2 k3 K0 B0 CN
        obtain ⟨_, k0, k1, k2, k3, _⟩ := KM1.out
        simp only at k0 k1 k2 k3
        clear k0 k1 k2 k3
        go_wp2_with fail
        go_ret2
        exact ⟨_, rfl, IntV.none _, B1.out⟩
  · have hE : ofE q l n = (cntD q l).2 := if_neg hc
    have hD : ofD q l n = [] := if_neg (by rw [hE]; exact hc)
    rw [hE, hD]
    have e1 : ((cntD q l).2 != 0) = true := by simp [hc]
    have e2 : ((cntD q l).2 == 0) = false := by simp [hc]
    clear MN hE hD hc
    generalize (cntD q l).1 = N1 at *
    generalize (cntD q l).2 = N2 at *
    obtain ⟨q1, q2, q3, q4⟩ := q
    go_enter Try.func25, Try.ntmps25
    obtain ⟨_, k0, k1, k2, k3, _⟩ := K0.out
    simp only at k0 k1 k2 k3
    go_wp2_with fail
    refine (CN.out _ (HP.out.later B0.out)).mono ?_
    rintro e w1 ⟨rfl, hb⟩
    have B1 := Lib.hid (w_below B0.out hb)
    have KM1 := Lib.hid (K0.out.later hb)
    clear hb k0 k1 k2 k3 K0 B0 CN
    obtain ⟨_, k0, k1, k2, k3, _⟩ := KM1.out
    simp only at k0 k1 k2 k3
    clear k0 k1 k2 k3
    go_wp2_with fail
    go_ret2
    exact ⟨_, rfl, IntV.none _, B1.out⟩

end Go.Proofs.Ythokapebcplmkaa
