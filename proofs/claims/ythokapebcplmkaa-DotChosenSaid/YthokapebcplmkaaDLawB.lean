/- The walk of DotChosen. -/
import Derived.Test.YthokapebcplmkaaDAwk
import Derived.Test.YthokapebcplmkaaDMkX
import Derived.Test.YthokapebcplmkaaDOfX
namespace Go.Proofs.Ythokapebcplmkaa
open Go.RowKit

set_option maxRecDepth 100000 in
set_option maxHeartbeats 8000000 in
theorem ldchosen_any (q : Q4) (l : List Sg) (n : Int) (ch : List Int) (p pc : Option Addr) (cap cc : Nat) (w : World) (h : SlP w 17 p l.length cap (flatG l)) (h2 : SlP w 1 pc ch.length cc (ints ch)) :
    Calls Try.prog 4 #[mv q, .slice p l.length cap, .int .i64 n, .slice pc ch.length cc] w fun e w' => e = .returned (.bool true) ∧ Below w.heap.size w w' := by
  have f1 := h.fit
  have f2 := h.max
  have g1 := h2.fit
  have g2 := h2.max
  have HP := Lib.hid h
  have HC := Lib.hid h2
  have B := Lib.hid (w_alloc (w_refl w) (mO q))
  have KM := Lib.hid (Cell4.made w q 23)
  have AW := Lib.hid (fun W => awake_any W)
  clear h h2
  by_cases hl : l.length ≤ 60
  · have hl2 : ¬ (60 : Int) < l.length := by omega
    by_cases hn : ch.length ≤ 60
    · have hn2 : ¬ (60 : Int) < ch.length := by omega
      have OW := Lib.hid (fun p cap W hh => lown_any p cap l (by omega) W hh)
      have OI := Lib.hid (fun p cap W hh => owni_any p cap ch (by omega) W hh)
      have PO := Lib.hid (fun p cap W hh => pof_any q l (by omega) n p cap W hh)
      have RO := Lib.hid (fun p cap W hh => rof_any q l (by omega) n p cap W hh)
      have PM := Lib.hid (fun p pc cap cc W hh h2 => pmks_any q l (by omega) ch p pc cap cc W hh h2)
      have RM := Lib.hid (fun p pc cap cc W hh h2 => rmks_any q l (by omega) ch p pc cap cc W hh h2)
      have SI := Lib.hid (fun zs p q cp cq W hp hq => samei_any p q cp cq zs W hp hq)
      have SB := Lib.hid (fun zs p q cp cq W hp hq => sameb_any p q cp cq zs W hp hq)
      have SS := Lib.hid (fun p q cp cq W hp hq => lsame_any p q cp cq l W hp hq)
      unfold OfPost at PO RO
      unfold MkPost at PM RM
      generalize ofE q l n = E1 at *
      generalize ofD q l n = L1 at *
      generalize mkE q l ch = E2 at *
      generalize mkC q l ch = L2 at *
      generalize mkA q l ch = L3 at *
      obtain ⟨q1, q2, q3, q4⟩ := q
      obtain ⟨bm, hbm⟩ : ∃ bm, w.heap.size = bm := ⟨_, rfl⟩
      go_enter Try.func4, Try.ntmps4
      go_wp2_with fail
      rw [hbm] at KM
      clear hbm
      refine (OW.out _ _ _ (HP.out.later B.out)).mono ?_
      rintro e w1 ⟨v, rfl, ho⟩
      obtain ⟨ph, chp, rfl⟩ := ho.val
      have HH0 := Lib.hid (show SlP w1 17 ph l.length chp (flatG l) from own_sl ho.row rfl)
      have hb := ho.bel
      replace B := Lib.hid (w_below B.out hb)
      replace KM := Lib.hid (KM.out.later hb)
      clear ho hb OW
      go_wp2_with fail
      refine (OI.out _ _ _ (HC.out.later B.out)).mono ?_
      rintro e w2 ⟨v, rfl, ho⟩
      obtain ⟨pw, cw, rfl⟩ := ho.val
      obtain ⟨pw', cw', ee, hww⟩ := IntV.of_own ho.row
      injection ee with ee1 _ ee2
      subst ee1 ee2
      have hb := ho.bel
      replace B := Lib.hid (w_below B.out hb)
      replace KM := Lib.hid (KM.out.later hb)
      have HH := Lib.hid (fun W (b : Below w2.heap.size w2 W) => (HH0.out.later hb).later b)
      have HW := Lib.hid (fun W (b : Below w2.heap.size w2 W) => hww.later b)
      have C := Lib.hid (w_refl w2)
      clear ho hb OI HH0 hww
      obtain ⟨_, k0, k1, k2, k3, _⟩ := KM.out
      simp only at k0 k1 k2 k3
      go_wp2_with fail
      refine (PO.out _ _ _ (HH.out _ C.out)).mono ?_
      rintro e wn ⟨v, rfl, ⟨pa, ca, rfl, hA⟩, hb⟩
      replace B := Lib.hid (w_below B.out hb)
      replace C := Lib.hid (w_below C.out hb)
      replace KM := Lib.hid (KM.out.later hb)
      have HA := Lib.hid hA
      clear hA PO
      clear hb k0 k1 k2 k3
      obtain ⟨_, k0, k1, k2, k3, _⟩ := KM.out
      simp only at k0 k1 k2 k3
      go_wp2_with fail
      refine (RO.out _ _ _ (HP.out.later B.out)).mono ?_
      rintro e wn ⟨v, rfl, ⟨pb, cb, rfl, hA⟩, hb⟩
      replace B := Lib.hid (w_below B.out hb)
      replace C := Lib.hid (w_below C.out hb)
      replace KM := Lib.hid (KM.out.later hb)
      have HB := Lib.hid hA
      replace HA := Lib.hid (HA.out.later hb)
      clear hA RO
      clear hb k0 k1 k2 k3
      go_wp2_with fail
      refine (SI.out _ _ _ _ _ _ HA.out HB.out).mono ?_
      rintro e wn ⟨rfl, hb⟩
      replace B := Lib.hid (w_below B.out hb)
      replace C := Lib.hid (w_below C.out hb)
      replace KM := Lib.hid (KM.out.later hb)
      clear hb HA HB
      obtain ⟨_, k0, k1, k2, k3, _⟩ := KM.out
      simp only at k0 k1 k2 k3
      go_wp2_with fail
      refine (PM.out _ _ _ _ _ (HH.out _ C.out) (HW.out _ C.out)).mono ?_
      rintro e wn ⟨v, u, rfl, ⟨px, cx, rfl, hX⟩, ⟨py, cy, rfl, hY⟩, hb⟩
      replace B := Lib.hid (w_below B.out hb)
      replace C := Lib.hid (w_below C.out hb)
      replace KM := Lib.hid (KM.out.later hb)
      have HX := Lib.hid hX
      have HY := Lib.hid hY
      clear hX hY PM
      clear hb k0 k1 k2 k3
      obtain ⟨_, k0, k1, k2, k3, _⟩ := KM.out
      simp only at k0 k1 k2 k3
      go_wp2_with fail
      refine (RM.out _ _ _ _ _ (HP.out.later B.out) (HC.out.later B.out)).mono ?_
      rintro e wn ⟨v, u, rfl, ⟨pu, cu, rfl, hX⟩, ⟨pv, cv, rfl, hY⟩, hb⟩
      replace B := Lib.hid (w_below B.out hb)
      replace C := Lib.hid (w_below C.out hb)
      replace KM := Lib.hid (KM.out.later hb)
      have HU := Lib.hid hX
      have HV := Lib.hid hY
      replace HX := Lib.hid (HX.out.later hb)
      replace HY := Lib.hid (HY.out.later hb)
      clear hX hY RM
      clear hb k0 k1 k2 k3
      go_wp2_with fail
      refine (SI.out _ _ _ _ _ _ HX.out HU.out).mono ?_
      rintro e wn ⟨rfl, hb⟩
      replace B := Lib.hid (w_below B.out hb)
      replace C := Lib.hid (w_below C.out hb)
      replace KM := Lib.hid (KM.out.later hb)
      replace HY := Lib.hid (HY.out.later hb)
      replace HV := Lib.hid (HV.out.later hb)
      clear hb HX HU
      go_wp2_with fail
      refine (SB.out _ _ _ _ _ _ HY.out HV.out).mono ?_
      rintro e wn ⟨rfl, hb⟩
      replace B := Lib.hid (w_below B.out hb)
      replace C := Lib.hid (w_below C.out hb)
      replace KM := Lib.hid (KM.out.later hb)
      clear hb HY HV
      go_wp2_with fail
      refine (SS.out _ _ _ _ _ (HH.out _ C.out) (HP.out.later B.out)).mono ?_
      rintro e wn ⟨rfl, hb⟩
      replace B := Lib.hid (w_below B.out hb)
      replace C := Lib.hid (w_below C.out hb)
      replace KM := Lib.hid (KM.out.later hb)
      clear hb SS
      go_wp2_with fail
      refine (SI.out _ _ _ _ _ _ (HW.out _ C.out) (HC.out.later B.out)).mono ?_
      rintro e wn ⟨rfl, hb⟩
      replace B := Lib.hid (w_below B.out hb)
      replace C := Lib.hid (w_below C.out hb)
      replace KM := Lib.hid (KM.out.later hb)
      clear hb
      go_wp2_with fail
      refine (AW.out _).mono ?_
      rintro e wn ⟨rfl, hb⟩
      replace B := Lib.hid (w_below B.out hb)
      replace C := Lib.hid (w_below C.out hb)
      replace KM := Lib.hid (KM.out.later hb)
      clear hb
      go_wp2_with fail
      go_ret
      exact ⟨rfl, B.out⟩
    · have hn2 : (60 : Int) < ch.length := by omega
      obtain ⟨q1, q2, q3, q4⟩ := q
      go_enter Try.func4, Try.ntmps4
      go_wp2_with fail
      refine (AW.out _).mono ?_
      rintro e w1 ⟨rfl, hb⟩
      replace B := Lib.hid (w_below B.out hb)
      clear hb
      go_wp2_with fail
      go_ret
      exact ⟨rfl, B.out⟩
  · have hl2 : (60 : Int) < l.length := by omega
    obtain ⟨q1, q2, q3, q4⟩ := q
    go_enter Try.func4, Try.ntmps4
    go_wp2_with fail
    refine (AW.out _).mono ?_
    rintro e w1 ⟨rfl, hb⟩
    replace B := Lib.hid (w_below B.out hb)
    clear hb
    go_wp2_with fail
    go_ret
    exact ⟨rfl, B.out⟩

end Go.Proofs.Ythokapebcplmkaa
