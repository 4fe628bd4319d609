/- DotNumbered: the combinations by number. -/
import Derived.Test.YthokapebcplmkaaDNumB
namespace Go.Proofs.Ythokapebcplmkaa
open Go.RowKit

set_option maxRecDepth 100000 in
set_option maxHeartbeats 8000000 in
theorem ldnum_any (which : Int) (hw1 : -9223372036854775808 ≤ which) (hw2 : which ≤ 9223372036854775807) (nums : List Int) (hb : ∀ z ∈ nums, -9223372036854775808 ≤ z ∧ z ≤ 9223372036854775807) (p : Option Addr) (cap : Nat) (w : World) (h : SlP w 1 p nums.length cap (ints nums)) :
    Calls Try.prog 7 #[.int .i64 which, .slice p nums.length cap] w fun e w' => e = .returned (.bool true) ∧ Below w.heap.size w w' := by
  have HP := Lib.hid h
  have KN := Lib.hid (dknown_any w)
  have MA := Lib.hid (fun p cap W hh => made_any nums hb p cap W hh)
  have KM := Lib.hid (fun W => kmens_any which ⟨hw1, hw2⟩ W)
  have hq : okM (ofN (which % 16)) := ofN_ok (by omega)
  generalize ofN (which % 16) = q at *
  have hml := made_len nums
  have hc := made_ok hq nums
  clear h hb hq hw1 hw2
  generalize madeD nums = M at *
  have hm1 : M.length ≤ 1000 := by omega
  obtain ⟨N, E, hNE, hcase⟩ : ∃ N E, cntD q M = (N, E) ∧ ((E = 0 ∧ N = (prodL (mnD q M) : Int) ∧ prodL (mnD q M) ≤ 64) ∨ E = 15) := by
    unfold cntD; rw [if_pos hc]
    by_cases h : prodL (mnD q M) ≤ 64
    · rw [if_pos h]; exact ⟨_, _, rfl, .inl ⟨rfl, rfl, h⟩⟩
    · rw [if_neg h]; exact ⟨_, _, rfl, .inr rfl⟩
  have CN := Lib.hid (fun p cap W hh => pcnt_any q M hm1 p cap W hh)
  have CR := Lib.hid (fun p cap W hh => rcnt_any q M hm1 p cap W hh)
  have RU := Lib.hid (fun p cap W hh => prul_any q M hm1 p cap W hh)
  unfold RuPost at RU
  rw [hc] at RU
  have OF : Hid (∀ (k : Nat), E = 0 → (k : Int) < N → ∀ p cap W, SlP W 17 p M.length cap (flatG M) → Calls Try.prog 24 #[mv q, .slice p M.length cap, .int .i64 k] W fun e w' => ∃ v, e = .returned (.tuple #[v, .int .i64 0]) ∧ IntV w' v (ofR (mnD q M) k) ∧ Below W.heap.size W w') := Lib.hid (fun k h0 hk p cap W hh => by
    have h1 := pof_any q M hm1 (k : Int) p cap W hh
    have e0 : ofE q M (k : Int) = 0 := by
      unfold ofE; rw [hNE]
      show (if E = 0 then (if 0 ≤ (k : Int) ∧ (k : Int) < N then 0 else 2) else E) = 0
      rw [if_pos h0, if_pos ⟨by omega, hk⟩]
    have e1 : ofD q M (k : Int) = ofR (mnD q M) k := by
      unfold ofD; rw [if_pos e0, Int.toNat_natCast]
    unfold OfPost at h1
    rw [e0, e1] at h1
    exact h1)
  have MK : Hid (∀ ch, okC (mnD q M) ch → ∀ p pc cap cc W, SlP W 17 p M.length cap (flatG M) → SlP W 1 pc ch.length cc (ints ch) → Calls Try.prog 26 #[mv q, .slice p M.length cap, .slice pc ch.length cc] W fun e w' => ∃ v u, e = .returned (.tuple #[v, u, .int .i64 0]) ∧ Below W.heap.size W w') := Lib.hid (fun ch hch p pc cap cc W h1 h2 => by
    have h3 := pmks_any q M hm1 ch p pc cap cc W h1 h2
    have e0 : mkE q M ch = 0 := by unfold mkE; rw [if_pos hc, if_pos hch]
    unfold MkPost at h3
    rw [e0] at h3
    exact h3.mono fun e w' ⟨v, u, k1, _, _, k4⟩ => ⟨v, u, k1, k4⟩)
  rw [hNE] at CN CR
  have hone : oneL (mnD q M) := mnD_one
  have hasc : ascL (mnD q M) := mnD_asc
  have hR : okC (mnD q M) (ruD q M) := ⟨ruD_len hc, fun i hi => ruD_in hc i hi⟩
  clear hNE hc
  generalize ruD q M = R at *
  generalize mnD q M = L at *
  have FN := Lib.hid (fnd_all hone hasc hR)
  have LE := Lib.hid (fun k => ofR_len L k)
  have hRL := Lib.hid hR.1
  have OK := Lib.hid (fun k => ofR_ok hone k)
  have AS := Lib.hid (fun k h => ofR_asc L hone hasc k h)
  have LS := Lib.hid (fun a b hab p q cp cq W h1 h2 => lless_any a b hab p q cp cq W h1 h2)
  have SD := Lib.hid (fun a b hab p q cp cq W h1 h2 => samed_any a b hab p q cp cq W h1 h2)
  have FL := Lib.hid (fun k => fnd_le L R k)
  have hcase2 := Lib.hid hcase
  clear hone hasc hR hcase
  obtain ⟨q1, q2, q3, q4⟩ := q
  go_enter Try.func7, Try.ntmps7
  go_wp2_with fail
  refine KN.out.mono ?_
  rintro e w1 ⟨rfl, hb⟩
  have B := Lib.hid hb
  clear hb KN
  go_wp2_with fail
  refine (KM.out _).mono ?_
  rintro e w2 ⟨rfl, hb⟩
  have KQ := Lib.hid (Cell4.made w2 (q1, q2, q3, q4) 23)
  replace B := Lib.hid (w_alloc (w_below B.out hb) (mO (q1, q2, q3, q4)))
  clear hb KM
  go_upto_region 3 with (fail)
  obtain ⟨bm, hbm⟩ : ∃ bm, w2.heap.size = bm := ⟨_, rfl⟩
  rw [hbm] at KQ ⊢
  generalize w2.alloc (.cells #[.int .i64 q1, .int .i64 q2, .int .i64 q3, .int .i64 q4] 23) = y at *
  clear hbm
  go_wp2_with fail
  refine (MA.out _ _ _ (HP.out.later B.out)).mono ?_
  rintro e w3 ⟨v, rfl, ho⟩
  obtain ⟨pm, cm, rfl⟩ := ho.val
  have HM := Lib.hid (show SlP w3 17 pm M.length cm (flatG M) from own_sl ho.row rfl)
  replace B := Lib.hid (w_below B.out ho.bel)
  replace KQ := Lib.hid (KQ.out.later ho.bel)
  clear ho MA
  obtain ⟨-, k0, k1, k2, k3, -⟩ := KQ.out
  simp only at k0 k1 k2 k3
  go_wp2_with fail
  refine (CN.out _ _ _ HM.out).mono ?_
  rintro e w4 ⟨rfl, hb⟩
  replace B := Lib.hid (w_below B.out hb)
  replace KQ := Lib.hid (KQ.out.later hb)
  replace HM := Lib.hid (HM.out.later hb)
  clear hb CN k0 k1 k2 k3
  obtain ⟨-, k0, k1, k2, k3, -⟩ := KQ.out
  simp only at k0 k1 k2 k3
  go_wp2_with fail
  refine (CR.out _ _ _ HM.out).mono ?_
  rintro e w5 ⟨rfl, hb⟩
  replace B := Lib.hid (w_below B.out hb)
  replace KQ := Lib.hid (KQ.out.later hb)
  replace HM := Lib.hid (HM.out.later hb)
  clear hb CR k0 k1 k2 k3
  rcases hcase2.out with ⟨rfl, hN, h64⟩ | rfl
  · obtain ⟨-, k0, k1, k2, k3, -⟩ := KQ.out
    simp only at k0 k1 k2 k3
    generalize hW : prodL L = Wn at *
    subst hN
    have hW2 := Lib.hid hW
    clear hW hcase2
    go_wp2_with fail
    refine (RU.out _ _ _ HM.out).mono ?_
    rintro e w6 ⟨v, rfl, ⟨pr, cr, rfl, hRs⟩, hb⟩
    replace B := Lib.hid (w_below B.out hb)
    replace KQ := Lib.hid (KQ.out.later hb)
    replace HM := Lib.hid (HM.out.later hb)
    have HR := Lib.hid hRs
    clear hb hRs RU k0 k1 k2 k3
    go_wp2_with fail
    go_loopw [14, 15, 16] (fun s14 s15 s16 wr => ∃ k : Nat, k ≤ Wn ∧ s16 = .int .i64 k ∧ s14 = .int .i64 ((fnd L R k : Nat) : Int) ∧ Hid (0 < k → IntV wr s15 (ofR L (k - 1))) ∧ Hid (Below w6.heap.size w6 wr)) (fun _ _ s16 _ => Wn - (intOf s16).toNat)
    case atStart => exact ⟨0, by omega, rfl, rfl, Lib.hid (fun h => absurd h (by decide)), Lib.hid (w_refl _)⟩
    case round =>
      rename World => wr
      obtain ⟨k, hk, rfl, rfl, HV, hB⟩ := hrel
      have hfl := FL.out k
      by_cases hlt : k < Wn
      · have hlt' : (k : Int) < Wn := by omega
        have hk0 : (0 : Int) ≤ k := by omega
        have HF1 := Lib.hid (show fnd L R (k + 1) = fnd L R k + if ofR L k = R then 1 else 0 from rfl)
        have KQr := KQ.out.later hB.out
        have HMr := HM.out.later hB.out
        generalize fnd L R k = fk at *
        obtain ⟨-, k0, k1, k2, k3, -⟩ := KQr
        simp only at k0 k1 k2 k3
        go_wp2_with fail
        refine (OF.out k trivial hlt' _ _ _ HMr).mono ?_
        rintro e wa ⟨v, rfl, ⟨px, cx, rfl, hx⟩, hb⟩
        replace hB := Lib.hid (w_below hB.out hb)
        have HV2 := Lib.hid (fun h0 => (HV.out h0).later hb)
        have HX := Lib.hid hx
        have HMa := HM.out.later hB.out
        clear hb hx HV k0 k1 k2 k3 HMr OF
        obtain ⟨-, k0, k1, k2, k3, -⟩ := KQ.out.later hB.out
        simp only at k0 k1 k2 k3
        go_wp2_with fail
        refine (MK.out _ (OK.out k) _ _ _ _ _ HMa HX.out).mono ?_
        rintro e wb ⟨v, u, rfl, hb⟩
        replace hB := Lib.hid (w_below hB.out hb)
        replace HV2 := Lib.hid (fun h0 => (HV2.out h0).later hb)
        replace HX := Lib.hid (HX.out.later hb)
        clear hb HMa k0 k1 k2 k3 MK OK
        have hxl := LE.out k
        have HRr := HR.out.later hB.out
        have SD2 := Lib.hid (fun W h1 h2 => SD.out (ofR L k) R (by rw [hxl, hRL.out]) px pr cx cr W h1 h2)
        have AS2 := Lib.hid (fun (h0 : 0 < k) => AS.out (k - 1) (by rw [show k - 1 + 1 = k by omega, Nat.mod_eq_of_lt hlt]; omega))
        have LE2 := Lib.hid (show (ofR L (k - 1)).length = (ofR L k).length by rw [LE.out, LE.out])
        clear hxl AS LE FL SD
        by_cases hk1 : 0 < k
        · obtain ⟨pv, cv, rfl, hv⟩ := HV2.out hk1
          have LS2 := LS.out (ofR L (k - 1)) (ofR L k) LE2.out pv px cv cx wb hv HX.out
          have e1 := AS2.out hk1
          rw [show k - 1 + 1 = k by omega] at e1
          rw [e1] at LS2
          have LS3 := Lib.hid LS2
          have hk1' : (0 : Int) < k := by omega
          clear LS2 e1 hv HV2 AS2 LE2 LS HRr
          generalize ofR L (k - 1) = Y at *
          generalize hXe : ofR L k = X at *
          have HXe := Lib.hid hXe
          clear hXe
          go_wp2_with fail
          refine LS3.out.mono ?_
          rintro e wc ⟨rfl, hb⟩
          replace hB := Lib.hid (w_below hB.out hb)
          replace HX := Lib.hid (HX.out.later hb)
          have HRr := HR.out.later hB.out
          clear hb LS3
          go_wp2_with fail
          refine (SD2.out _ HX.out HRr).mono ?_
          rintro e wd ⟨rfl, hb⟩
          replace hB := Lib.hid (w_below hB.out hb)
          replace HX := Lib.hid (HX.out.later hb)
          clear hb HRr SD2
          by_cases hXR : X = R
          · rw [if_pos hXR] at HF1
            rw [decide_eq_true hXR]
            clear hXR
            go_wp2_with fail
            exact ⟨⟨k + 1, by omega, by go_num, by rw [HF1.out]; go_num, Lib.hid (fun _ => by rw [Nat.add_sub_cancel, HXe.out]; exact ⟨px, cx, rfl, HX.out⟩), hB⟩, by simp [intOf]; omega⟩
          · rw [if_neg hXR] at HF1
            rw [decide_eq_false hXR]
            clear hXR
            go_wp2_with fail
            exact ⟨⟨k + 1, by omega, by go_num, by rw [HF1.out]; go_num, Lib.hid (fun _ => by rw [Nat.add_sub_cancel, HXe.out]; exact ⟨px, cx, rfl, HX.out⟩), hB⟩, by simp [intOf]; omega⟩
        · have hk1' : ¬ (0 : Int) < k := by omega
          clear HV2 AS2 LE2 LS
          generalize hXe : ofR L k = X at *
          have HXe := Lib.hid hXe
          clear hXe
          go_wp2_with fail
          refine (SD2.out _ HX.out HRr).mono ?_
          rintro e wd ⟨rfl, hb⟩
          replace hB := Lib.hid (w_below hB.out hb)
          replace HX := Lib.hid (HX.out.later hb)
          clear hb HRr SD2
          by_cases hXR : X = R
          · rw [if_pos hXR] at HF1
            rw [decide_eq_true hXR]
            clear hXR
            go_wp2_with fail
            exact ⟨⟨k + 1, by omega, by go_num, by rw [HF1.out]; go_num, Lib.hid (fun _ => by rw [Nat.add_sub_cancel, HXe.out]; exact ⟨px, cx, rfl, HX.out⟩), hB⟩, by simp [intOf]; omega⟩
          · rw [if_neg hXR] at HF1
            rw [decide_eq_false hXR]
            clear hXR
            go_wp2_with fail
            exact ⟨⟨k + 1, by omega, by go_num, by rw [HF1.out]; go_num, Lib.hid (fun _ => by rw [Nat.add_sub_cancel, HXe.out]; exact ⟨px, cx, rfl, HX.out⟩), hB⟩, by simp [intOf]; omega⟩
      · obtain rfl : k = Wn := by omega
        have hlt' : ¬ ((k : Int) < k) := by omega
        rw [FN.out]
        clear HV FN
        go_wp2_with fail
        go_ret
        exact ⟨rfl, w_below B.out hB.out⟩
  · clear hcase2
    go_wp2_with fail
    go_ret
    exact ⟨rfl, B.out⟩

end Go.Proofs.Ythokapebcplmkaa
