/- The walk of DotMeanings. -/
import Derived.Test.YthokapebcplmkaaDAwk
import Derived.Test.YthokapebcplmkaaDRefD
import Derived.Test.YthokapebcplmkaaDRefE
namespace Go.Proofs.Ythokapebcplmkaa
open Go.RowKit

set_option maxRecDepth 100000 in
set_option maxHeartbeats 8000000 in
theorem ldmean_any (q : Q4) (l : List Sg) (p : Option Addr) (cap : Nat) (w : World) (h : SlP w 17 p l.length cap (flatG l)) :
    Calls Try.prog 3 #[mv q, .slice p l.length cap] w fun e w' => e = .returned (.bool true) ∧ Below w.heap.size w w' := by
  have f1 := h.fit
  have f2 := h.max
  have HP := Lib.hid h
  have B := Lib.hid (w_alloc (w_refl w) (mO q))
  have KM := Lib.hid (Cell4.made w q 23)
  have AW := Lib.hid (fun W => awake_any W)
  clear h
  by_cases hl : l.length ≤ 60
  · have hl2 : ¬ (60 : Int) < l.length := by omega
    have OW := Lib.hid (fun p cap W hh => lown_any p cap l (by omega) W hh)
    have PM := Lib.hid (fun p cap W hh => pmns_any q l (by omega) p cap W hh)
    have RM := Lib.hid (fun p cap W hh => rmns_any q l (by omega) p cap W hh)
    have PR := Lib.hid (fun p cap W hh => prul_any q l (by omega) p cap W hh)
    have RR := Lib.hid (fun p cap W hh => rrul_any q l (by omega) p cap W hh)
    have PC := Lib.hid (fun p cap W hh => pcnt_any q l (by omega) p cap W hh)
    have RC := Lib.hid (fun p cap W hh => rcnt_any q l (by omega) p cap W hh)
    have CK1 := Lib.hid (fun p cap W hh => pchk_any q l (by omega) p cap W hh)
    have CK2 := Lib.hid (fun p cap W hh => rchk_any q l (by omega) p cap W hh)
    have SL := Lib.hid (fun L p q cp cq vs us W hp hq => samel_any L p q cp cq vs us W hp hq)
    have SI := Lib.hid (fun zs p q cp cq W hp hq => samei_any p q cp cq zs W hp hq)
    have SS := Lib.hid (fun p q cp cq W hp hq => lsame_any p q cp cq l W hp hq)
    unfold MnPost at PM RM
    unfold RuPost at PR RR
    generalize chkD q l = E at *
    generalize mnD q l = L at *
    generalize ruD q l = R at *
    generalize (cntD q l).1 = N1 at *
    generalize (cntD q l).2 = N2 at *
    obtain ⟨q1, q2, q3, q4⟩ := q
    obtain ⟨bm, hbm⟩ : ∃ bm, w.heap.size = bm := ⟨_, rfl⟩
    go_enter Try.func3, Try.ntmps3
    go_wp2_with fail
    rw [hbm] at KM
    clear hbm
    refine (OW.out _ _ _ (HP.out.later B.out)).mono ?_
    rintro e w1 ⟨v, rfl, ho⟩
    obtain ⟨ph, ch, rfl⟩ := ho.val
    have HH0 := Lib.hid (show SlP w1 17 ph l.length ch (flatG l) from own_sl ho.row rfl)
    have hb := ho.bel
    replace B := Lib.hid (w_below B.out hb)
    replace KM := Lib.hid (KM.out.later hb)
    have HH := Lib.hid (fun W (b : Below w1.heap.size w1 W) => HH0.out.later b)
    have C := Lib.hid (w_refl w1)
    clear ho hb OW HH0
    obtain ⟨_, k0, k1, k2, k3, _⟩ := KM.out
    simp only at k0 k1 k2 k3
    go_wp2_with fail
    refine (PM.out _ _ _ (HH.out _ C.out)).mono ?_
    rintro e wn ⟨v, rfl, ⟨pa, ca, vsa, rfl, hA⟩, hb⟩
    replace B := Lib.hid (w_below B.out hb)
    replace C := Lib.hid (w_below C.out hb)
    replace KM := Lib.hid (KM.out.later hb)
    have HA := Lib.hid hA
    clear hA PM
    clear hb k0 k1 k2 k3
    obtain ⟨_, k0, k1, k2, k3, _⟩ := KM.out
    simp only at k0 k1 k2 k3
    go_wp2_with fail
    refine (RM.out _ _ _ (HP.out.later B.out)).mono ?_
    rintro e wn ⟨v, rfl, ⟨pb, cb, vsb, rfl, hA⟩, hb⟩
    replace B := Lib.hid (w_below B.out hb)
    replace C := Lib.hid (w_below C.out hb)
    replace KM := Lib.hid (KM.out.later hb)
    have HB := Lib.hid hA
    replace HA := Lib.hid (HA.out.later hb)
    clear hA RM
    clear hb k0 k1 k2 k3
    go_wp2_with fail
    refine (SL.out _ _ _ _ _ _ _ _ HA.out HB.out).mono ?_
    rintro e wn ⟨rfl, hb⟩
    replace B := Lib.hid (w_below B.out hb)
    replace C := Lib.hid (w_below C.out hb)
    replace KM := Lib.hid (KM.out.later hb)
    clear hb HA HB SL
    obtain ⟨_, k0, k1, k2, k3, _⟩ := KM.out
    simp only at k0 k1 k2 k3
    go_wp2_with fail
    refine (PR.out _ _ _ (HH.out _ C.out)).mono ?_
    rintro e wn ⟨v, rfl, ⟨pc, cc, rfl, hA⟩, hb⟩
    replace B := Lib.hid (w_below B.out hb)
    replace C := Lib.hid (w_below C.out hb)
    replace KM := Lib.hid (KM.out.later hb)
    have HA := Lib.hid hA
    clear hA PR
    clear hb k0 k1 k2 k3
    obtain ⟨_, k0, k1, k2, k3, _⟩ := KM.out
    simp only at k0 k1 k2 k3
    go_wp2_with fail
    refine (RR.out _ _ _ (HP.out.later B.out)).mono ?_
    rintro e wn ⟨v, rfl, ⟨pd, cd, rfl, hA⟩, hb⟩
    replace B := Lib.hid (w_below B.out hb)
    replace C := Lib.hid (w_below C.out hb)
    replace KM := Lib.hid (KM.out.later hb)
    have HB := Lib.hid hA
    replace HA := Lib.hid (HA.out.later hb)
    clear hA RR
    clear hb k0 k1 k2 k3
    go_wp2_with fail
    refine (SI.out _ _ _ _ _ _ HA.out HB.out).mono ?_
    rintro e wn ⟨rfl, hb⟩
    replace B := Lib.hid (w_below B.out hb)
    replace C := Lib.hid (w_below C.out hb)
    replace KM := Lib.hid (KM.out.later hb)
    clear hb HA HB SI
    obtain ⟨_, k0, k1, k2, k3, _⟩ := KM.out
    simp only at k0 k1 k2 k3
    go_wp2_with fail
    refine (PC.out _ _ _ (HH.out _ C.out)).mono ?_
    rintro e wn ⟨rfl, hb⟩
    replace B := Lib.hid (w_below B.out hb)
    replace C := Lib.hid (w_below C.out hb)
    replace KM := Lib.hid (KM.out.later hb)
    clear PC
    clear hb k0 k1 k2 k3
    obtain ⟨_, k0, k1, k2, k3, _⟩ := KM.out
    simp only at k0 k1 k2 k3
    go_wp2_with fail
    refine (RC.out _ _ _ (HP.out.later B.out)).mono ?_
    rintro e wn ⟨rfl, hb⟩
    replace B := Lib.hid (w_below B.out hb)
    replace C := Lib.hid (w_below C.out hb)
    replace KM := Lib.hid (KM.out.later hb)
    clear RC
    clear hb k0 k1 k2 k3
    go_wp2_with fail
    have K1 := Lib.hid (show ∀ n : Grown wn, Calls Try.prog 20 #[mv (q1, q2, q3, q4), .slice ph l.length ch] n.W fun e w' => e = .returned (.int .i64 E) ∧ Grew wn w' from fun n => (CK1.out _ _ n.W (HH.out _ (w_below C.out n.b))).mono fun e w' ⟨h1, h2⟩ => ⟨h1, n.on h2, rfl⟩)
    have K2 := Lib.hid (show ∀ n : Grown wn, Calls Try.prog 21 #[mv (q1, q2, q3, q4), .slice p l.length cap] n.W fun e w' => e = .returned (.int .i64 E) ∧ Grew wn w' from fun n => (CK2.out _ _ n.W (HP.out.later (w_below B.out n.b))).mono fun e w' ⟨h1, h2⟩ => ⟨h1, n.on h2, rfl⟩)
    have K3 := Lib.hid (show ∀ n : Grown wn, Calls Try.prog 22 #[.slice ph l.length ch, .slice p l.length cap] n.W fun e w' => e = .returned (.bool true) ∧ Grew wn w' from fun n => (SS.out _ _ _ _ n.W (HH.out _ (w_below C.out n.b)) (HP.out.later (w_below B.out n.b))).mono fun e w' ⟨h1, h2⟩ => ⟨h1, n.on h2, rfl⟩)
    have KA := Lib.hid (show ∀ n : Grown wn, Calls Try.prog 10 #[] n.W fun e w' => e = .returned (.bool true) ∧ Grew wn w' from fun n => (AW.out n.W).mono fun e w' ⟨h1, h2⟩ => ⟨h1, n.on h2, rfl⟩)
    have t0 : ∀ n : Grown wn, n.W.cell? ⟨bm, 0, none⟩ = some (.int .i64 q1) := fun n => cell_later n.b KM.out.c0
    have t1 : ∀ n : Grown wn, n.W.cell? ⟨bm, 1, none⟩ = some (.int .i64 q2) := fun n => cell_later n.b KM.out.c1
    have t2 : ∀ n : Grown wn, n.W.cell? ⟨bm, 2, none⟩ = some (.int .i64 q3) := fun n => cell_later n.b KM.out.c2
    have t3 : ∀ n : Grown wn, n.W.cell? ⟨bm, 3, none⟩ = some (.int .i64 q4) := fun n => cell_later n.b KM.out.c3
    clear CK1 CK2 SS AW HH HP KM C
    refine wp_region_grown (by kernel_rfl) (by kernel_rfl) ?_
    go_big_quiet_step (fail)
    go_big_quiet_step (fail)
    go_big_quiet_step (fail)
    go_big_quiet_step (fail)
    go_big_quiet_step (fail)
    go_big_quiet_step (fail)
    go_big_quiet_step (fail)
    go_big_quiet_step (fail)
    go_big_quiet_step (fail)
    go_big_quiet_step (fail)
    go_big_quiet_step (fail)
    go_big_quiet_step (exact K1.out _)
    go_big_quiet_step (fail)
    go_big_quiet_step (fail)
    go_big_quiet_step (exact K2.out _)
    go_big_quiet_step (fail)
    go_big_quiet_step (fail)
    go_big_quiet_step (fail)
    go_big_quiet_step (fail)
    go_big_quiet_step (fail)
    go_big_quiet_step (exact K3.out _)
    go_big_quiet_step (fail)
    go_big_quiet_step (fail)
    go_big_quiet_step (exact KA.out _)
    go_big_quiet_step (fail)
    go_big_quiet_step (fail)
    refine wpQuiet_nil ?_
    intro n
    go_wp2_with fail
    go_ret
    exact ⟨rfl, w_below B.out n.b⟩
  · have hl2 : (60 : Int) < l.length := by omega
    obtain ⟨q1, q2, q3, q4⟩ := q
    go_enter Try.func3, Try.ntmps3
    go_wp2_with fail
    refine (AW.out _).mono ?_
    rintro e w1 ⟨rfl, hb⟩
    replace B := Lib.hid (w_below B.out hb)
    clear hb
    go_wp2_with fail
    go_ret
    exact ⟨rfl, B.out⟩

end Go.Proofs.Ythokapebcplmkaa
