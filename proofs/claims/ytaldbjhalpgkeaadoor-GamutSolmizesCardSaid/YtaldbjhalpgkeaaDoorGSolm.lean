/- The reference's Solmize: the best solmization, or which error. -/
import Derived.Test.YtaldbjhalpgkeaaDoorGBest
import Derived.Test.YtaldbjhalpgkeaaDoorGSolE
namespace Go.Proofs.YtaldbjhalpgkeaaDoor
open Go.RowKit

set_option maxRecDepth 100000 in
set_option maxHeartbeats 4000000 in
theorem rsolmize_any (p : Option Addr) (cap : Nat) (l : List Pi3) (w : World) (h : SlP w 3 p l.length cap (flatP l)) : Calls Tryd.prog 24 #[.slice p l.length cap] w (SolPost l w) := by
  have HS := Lib.hid h
  have f1 := h.fit
  have f2 := h.max
  clear h
  have CK := Lib.hid (fun q W => rcheck_any q W)
  have MW := Lib.hid (fun q W => rmadeways_any q W)
  by_cases hbig : 400 < l.length
  · have hbig' : (400 : Int) < l.length := by omega
    have hfin := Lib.hid (SolPost.bad (l := l) (w := w) (w' := w) (e := 11) (by unfold solErr; rw [if_pos hbig]) (by decide) (w_refl w))
    go_enter Tryd.func24, Tryd.ntmps24
    go_wp2_with fail
    go_ret3
    exact hfin.out
  · have hbig' : ¬ ((400 : Int) < l.length) := by omega
    have hE := Lib.hid (show solErr l = solE l from by unfold solErr; rw [if_neg hbig])
    go_enter Tryd.func24, Tryd.ntmps24
    go_wp2_with fail
    go_loopw [5] (fun s5 wr => ∃ i : Nat, i ≤ l.length ∧ s5 = .int .i64 i ∧ Hid (solE l = solE (l.drop i)) ∧ Hid (Below w.heap.size w wr)) (fun s5 _ => l.length - (intOf s5).toNat)
    case atStart => exact ⟨0, Nat.zero_le _, rfl, Lib.hid rfl, Lib.hid (w_refl w)⟩
    case round =>
      obtain ⟨i, hin, rfl, hd, hb⟩ := hrel
      by_cases hi : i < l.length
      · have hi' : (i : Int) < l.length := by omega
        obtain ⟨q, hq⟩ : ∃ q, l[i]? = some q := ⟨l[i], List.getElem?_eq_getElem hi⟩
        have hdrop : l.drop i = q :: l.drop (i + 1) := by
          obtain ⟨hlt, e⟩ := List.getElem?_eq_some_iff.1 hq
          rw [List.drop_eq_getElem_cons hlt, e]
        obtain ⟨bl, off, rfl, hbl, a0, a1, a2⟩ := (HS.out.later hb.out).pit hq
        have GA := Lib.hid (show _ ∧ _ ∧ _ from ⟨a0, a1, a2⟩)
        have C := Lib.hid (fun W => CK.out q W)
        have M := Lib.hid (fun W => MW.out q W)
        have hsol : solE (l.drop i) = if okP q then (if waysL q = [] then 18 else solE (l.drop (i + 1))) else 2 := by rw [hdrop]; rfl
        by_cases hok : okP q
        · rw [if_pos hok] at hsol
          rw [chkV_ok hok] at C
          clear hok hdrop hq
          go_wp2_with fail
          refine (C.out _).mono ?_
          rintro e w1 ⟨rfl, hb1⟩
          have HB1 := Lib.hid (w_below hb.out hb1)
          clear a0 a1 a2
          have a0 := cell_later hb1 GA.out.1
          have a1 := cell_later hb1 GA.out.2.1
          have a2 := cell_later hb1 GA.out.2.2
          clear hb1 C
          go_wp2_with fail
          refine (M.out _).mono ?_
          rintro e w2 ⟨v, rfl, ⟨qv, cv, rfl, _⟩, hb2⟩
          have HB2 := Lib.hid (w_below HB1.out hb2)
          clear hb2 M HB1 a0 a1 a2
          by_cases hw : waysL q = []
          · rw [if_pos hw] at hsol
            have hfin := Lib.hid (SolPost.bad (l := l) (w := w) (w' := w2) (e := 18) (by rw [hE.out, hd.out, hsol]) (by decide) HB2.out)
            have hz : (((waysL q).length : Int) == 0) = true := by rw [hw]; rfl
            clear hw hsol
            go_wp2_with fail
            go_ret3
            exact hfin.out
          · rw [if_neg hw] at hsol
            have hz : (((waysL q).length : Int) == 0) = false := by
              have := List.length_pos_iff.2 hw
              simp; exact hw
            have hd2 := Lib.hid (hd.out.trans hsol)
            clear hw hsol hd
            go_wp2_with fail
            go_roundw
            case rel => exact ⟨i + 1, by omega, by go_num, hd2, HB2⟩
            case measure => simp [intOf]; omega
        · rw [if_neg hok] at hsol
          rw [chkV_no hok] at C
          have hfin := Lib.hid (fun w' hb' => SolPost.bad (l := l) (w := w) (w' := w') (e := 2) (by rw [hE.out, hd.out, hsol]) (by decide) hb')
          clear hok hdrop hq hsol
          go_wp2_with fail
          refine (C.out _).mono ?_
          rintro e w1 ⟨rfl, hb1⟩
          have HB1 := Lib.hid (w_below hb.out hb1)
          clear hb1 C a0 a1 a2
          go_wp2_with fail
          go_ret3
          exact hfin.out _ HB1.out
      · obtain rfl : i = l.length := by omega
        have hz : solE l = 0 := by rw [hd.out, List.drop_eq_nil_of_le (Nat.le_refl _)]; rfl
        have BE := Lib.hid (fun W (b : Below w.heap.size w W) => rbest_any p cap l W (HS.out.later b) (by omega) (sol_sung hz))
        have hL := Lib.hid (show solL l = bestL l by unfold solL; rw [hE.out, if_pos hz])
        have hEz := Lib.hid (show solErr l = 0 by rw [hE.out, hz])
        clear hz
        go_wp2_with fail
        refine (BE.out _ hb.out).mono ?_
        rintro e w1 ⟨v, rfl, hv, hb1⟩
        have hfin := Lib.hid (show SolPost l w (.returned (.tuple #[v, .int .i64 (movesL (bestL l)), .int .i64 0])) w1 from ⟨v, by rw [hL.out, hEz.out], by rw [hL.out]; exact hv, w_below hb.out hb1⟩)
        clear hv hb1 BE
        go_wp2_with fail
        go_ret3
        exact hfin.out

end Go.Proofs.YtaldbjhalpgkeaaDoor
