/- LigatureValues returns true: which ligatures are valid, and which values their notes have, are the reference's; the signs are not changed. -/
import Derived.Test.YtedkcnphplpacaaLgProgD
import Derived.Test.YtedkcnphplpacaaLgKit
namespace Go.Proofs.Ytedkcnphplpacaa
open Go.RowKit

set_option maxRecDepth 100000 in
set_option maxHeartbeats 4000000 in
theorem lvalues_any (p : Option Addr) (cap : Nat) (l : List Sg) (w : World) (h : SlP w 17 p l.length cap (flatG l))
    (AW : ∀ W, Below w.heap.size w W → Calls Try.prog 16 #[] W fun e w' => e = .returned (.bool true) ∧ Below W.heap.size W w') :
    Calls Try.prog 4 #[.slice p l.length cap] w fun e w' => e = .returned (.bool true) ∧ Below w.heap.size w w' := by
  have f1 := h.fit
  have f2 := h.max
  have A := Lib.hid AW
  have HS := Lib.hid h
  clear h AW
  by_cases hlen : 30 < l.length
  · have g1 : (30 : Int) < l.length := by omega
    clear hlen
    go_enter Try.func4, Try.ntmps4
    go_wp2_with fail
    refine (A.out _ (w_refl w)).mono ?_
    rintro e w1 ⟨rfl, hb⟩
    go_wp2_with fail
    go_ret
    exact ⟨rfl, hb⟩
  · have g1 : ¬ (30 : Int) < l.length := by omega
    have hm : l.length ≤ 1000 := by omega
    have OS := Lib.hid (owns_any p cap l hm w HS.out)
    have PC := Lib.hid (fun q c W hq => pchk_any l hm q c W hq)
    have RC := Lib.hid (fun W (b : Below w.heap.size w W) => rlchk_any l hm p cap W (HS.out.later b))
    have PV := Lib.hid (fun q c W hq => plvals_any l hm q c W hq)
    have RV := Lib.hid (fun W (b : Below w.heap.size w W) => rlvals_any l hm p cap W (HS.out.later b))
    have SI := Lib.hid (fun m p q cp cq W hp hq => samei_any p q cp cq m W hp hq)
    have SS := Lib.hid (fun q c W hq (b : Below w.heap.size w W) => sames_any q p c cap l W hq (HS.out.later b))
    unfold ValPost at PV RV
    generalize (if (chkG l).1 = 0 then valsG l else []) = V at *
    generalize (chkG l).1 = ce at *
    generalize (chkG l).2 = cn at *
    clear hlen hm
    go_enter Try.func4, Try.ntmps4
    go_wp2_with fail
    refine OS.out.mono ?_
    rintro e w1 ⟨v, rfl, ho⟩
    obtain ⟨q, c, rfl, hq⟩ := SlP.of_own ho.row (flatG_len l) (flatG_one l)
    have B := Lib.hid ho.bel
    have HQ := Lib.hid hq
    have e1 := hq.fit
    have e2 := hq.max
    clear ho hq OS
    go_wp2_with fail
    refine (PC.out q c _ HQ.out).mono ?_
    rintro e w2 ⟨rfl, hb⟩
    replace B := Lib.hid (w_below B.out hb)
    replace HQ := Lib.hid (HQ.out.later hb)
    clear hb PC
    go_wp2_with fail
    refine (RC.out _ B.out).mono ?_
    rintro e w3 ⟨rfl, hb⟩
    replace B := Lib.hid (w_below B.out hb)
    replace HQ := Lib.hid (HQ.out.later hb)
    clear hb RC
    go_wp2_with fail
    refine (PV.out q c _ HQ.out).mono ?_
    rintro e w4 ⟨v1, rfl, hv1, hb⟩
    replace B := Lib.hid (w_below B.out hb)
    replace HQ := Lib.hid (HQ.out.later hb)
    obtain ⟨q1, c1, rfl, hs1⟩ := hv1
    have H1 := Lib.hid hs1
    clear hb hs1 PV
    go_wp2_with fail
    refine (RV.out _ B.out).mono ?_
    rintro e w5 ⟨v2, rfl, hv2, hb⟩
    replace B := Lib.hid (w_below B.out hb)
    replace HQ := Lib.hid (HQ.out.later hb)
    replace H1 := Lib.hid (H1.out.later hb)
    obtain ⟨q2, c2, rfl, hs2⟩ := hv2
    have H2 := Lib.hid hs2
    clear hb hs2 RV
    go_wp2_with fail
    refine (SI.out V q1 q2 c1 c2 _ H1.out H2.out).mono ?_
    rintro e w6 ⟨rfl, hb⟩
    replace B := Lib.hid (w_below B.out hb)
    replace HQ := Lib.hid (HQ.out.later hb)
    clear hb SI H1 H2
    go_wp2_with fail
    refine (SS.out q c _ HQ.out B.out).mono ?_
    rintro e w7 ⟨rfl, hb⟩
    replace B := Lib.hid (w_below B.out hb)
    clear hb SS HQ
    go_wp2_with fail
    refine (A.out _ B.out).mono ?_
    rintro e w8 ⟨rfl, hb⟩
    replace B := Lib.hid (w_below B.out hb)
    clear hb A
    go_wp2_with fail
    go_ret
    exact ⟨rfl, B.out⟩

end Go.Proofs.Ytedkcnphplpacaa
