/- The program's Meanings and Rule. -/
import Derived.Test.YthokapebcplmkaaDCol
import Derived.Test.YthokapebcplmkaaDColB
import Derived.Test.YthokapebcplmkaaDPost
namespace Go.Proofs.Ythokapebcplmkaa
open Go.RowKit

set_option maxHeartbeats 1000000 in
theorem pmns_any (q : Q4) (l : List Sg) (hl : l.length ≤ 1000) (p : Option Addr) (cap : Nat) (w : World) (h : SlP w 17 p l.length cap (flatG l)) :
    Calls Try.prog 12 #[mv q, .slice p l.length cap] w (MnPost q l w) := by
  have K0 := Lib.hid (Cell4.made w q 23)
  have B0 := Lib.hid (w_alloc (w_refl w) (mO q))
  have HP := Lib.hid h
  have CK := Lib.hid (fun W hh => pchk_any q l hl p cap W hh)
  have CO := Lib.hid (fun bm W hh hm => pcolL_any q l hl bm p cap W hh hm)
  clear h
  unfold MnPost
  by_cases hc : chkD q l = 0
  · rw [mnD_ok hc, hc]
    rw [hc] at CK
    clear hc
    generalize mnP q l l.length = R at *
    obtain ⟨q1, q2, q3, q4⟩ := q
    go_enter Try.func12, Try.ntmps12
    obtain ⟨_, k0, k1, k2, k3, _⟩ := K0.out
    simp only at k0 k1 k2 k3
    go_wp2_with fail
    refine (CK.out _ (HP.out.later B0.out)).mono ?_
    rintro e w1 ⟨rfl, hb⟩
    have B1 := Lib.hid (w_below B0.out hb)
    have KM1 := Lib.hid (K0.out.later hb)
    clear hb k0 k1 k2 k3 K0 B0 CK
    go_wp2_with fail
    refine (CO.out _ _ (HP.out.later B1.out) KM1.out).mono ?_
    rintro e w2 ⟨v, rfl, vs, ho⟩
    have HF := Lib.hid (show LstV w2 v (R) ∧ Below w.heap.size w w2 from ⟨ho.val, w_below B1.out ho.own.bel⟩)
    obtain ⟨q9, c9, rfl⟩ := ho.own.val
    clear ho CO HP KM1 B1
    go_wp2_with fail
    go_ret2
    exact ⟨_, rfl, HF.out.1, HF.out.2⟩
  · rw [mnD_no hc]
    have h1 : (chkD q l != 0) = true := by simp [hc]
    have h2 : (chkD q l == 0) = false := by simp [hc]
    clear hc CO
    generalize chkD q l = E at *
    obtain ⟨q1, q2, q3, q4⟩ := q
    go_enter Try.func12, Try.ntmps12
    obtain ⟨_, k0, k1, k2, k3, _⟩ := K0.out
    simp only at k0 k1 k2 k3
    go_wp2_with fail
    refine (CK.out _ (HP.out.later B0.out)).mono ?_
    rintro e w1 ⟨rfl, hb⟩
    have B1 := Lib.hid (w_below B0.out hb)
    clear hb k0 k1 k2 k3 K0 B0 CK
    go_wp2_with fail
    go_ret2
    exact ⟨_, rfl, LstV.none _, B1.out⟩

set_option maxHeartbeats 1000000 in
theorem prul_any (q : Q4) (l : List Sg) (hl : l.length ≤ 1000) (p : Option Addr) (cap : Nat) (w : World) (h : SlP w 17 p l.length cap (flatG l)) :
    Calls Try.prog 15 #[mv q, .slice p l.length cap] w (RuPost q l w) := by
  have K0 := Lib.hid (Cell4.made w q 23)
  have B0 := Lib.hid (w_alloc (w_refl w) (mO q))
  have HP := Lib.hid h
  have CK := Lib.hid (fun W hh => pchk_any q l hl p cap W hh)
  have CO := Lib.hid (fun bm W hh hm => pcolI_any q l hl bm p cap W hh hm)
  clear h
  unfold RuPost
  by_cases hc : chkD q l = 0
  · rw [ruD_ok hc, hc]
    rw [hc] at CK
    clear hc
    generalize ruP q l l.length = R at *
    obtain ⟨q1, q2, q3, q4⟩ := q
    go_enter Try.func15, Try.ntmps15
    obtain ⟨_, k0, k1, k2, k3, _⟩ := K0.out
    simp only at k0 k1 k2 k3
    go_wp2_with fail
    refine (CK.out _ (HP.out.later B0.out)).mono ?_
    rintro e w1 ⟨rfl, hb⟩
    have B1 := Lib.hid (w_below B0.out hb)
    have KM1 := Lib.hid (K0.out.later hb)
    clear hb k0 k1 k2 k3 K0 B0 CK
    go_wp2_with fail
    refine (CO.out _ _ (HP.out.later B1.out) KM1.out).mono ?_
    rintro e w2 ⟨v, rfl, ho⟩
    have HF := Lib.hid (show IntV w2 v (R) ∧ Below w.heap.size w w2 from ⟨IntV.of_own ho.row, w_below B1.out ho.bel⟩)
    obtain ⟨q9, c9, rfl⟩ := ho.val
    clear ho CO HP KM1 B1
    go_wp2_with fail
    go_ret2
    exact ⟨_, rfl, HF.out.1, HF.out.2⟩
  · rw [ruD_no hc]
    have h1 : (chkD q l != 0) = true := by simp [hc]
    have h2 : (chkD q l == 0) = false := by simp [hc]
    clear hc CO
    generalize chkD q l = E at *
    obtain ⟨q1, q2, q3, q4⟩ := q
    go_enter Try.func15, Try.ntmps15
    obtain ⟨_, k0, k1, k2, k3, _⟩ := K0.out
    simp only at k0 k1 k2 k3
    go_wp2_with fail
    refine (CK.out _ (HP.out.later B0.out)).mono ?_
    rintro e w1 ⟨rfl, hb⟩
    have B1 := Lib.hid (w_below B0.out hb)
    clear hb k0 k1 k2 k3 K0 B0 CK
    go_wp2_with fail
    go_ret2
    exact ⟨_, rfl, IntV.none _, B1.out⟩

end Go.Proofs.Ythokapebcplmkaa
