/- Statement GamutSolmizes, as a walk. -/
import Derived.Test.YtaldbjhalpgkeaaDoorGLawE
import Derived.Test.YtaldbjhalpgkeaaDoorGSolm
namespace Go.Proofs.YtaldbjhalpgkeaaDoor
open Go.RowKit

set_option maxRecDepth 100000 in
set_option maxHeartbeats 4000000 in
theorem gsolm_any (p : Option Addr) (cap : Nat) (l : List Pi3) (w : World) (h : SlP w 3 p l.length cap (flatP l)) (tab : TabG w) :
    Calls Tryd.prog 4 #[.slice p l.length cap] w fun e w' => e = .returned (.bool true) ∧ Below w.heap.size w w' := by
  have f1 := h.fit
  have f2 := h.max
  have HS := Lib.hid h
  have TB := Lib.hid (fun W (b : Below w.heap.size w W) => tab.later b)
  have AW := Lib.hid (fun W b => gwake_any W (TB.out W b))
  clear h tab
  obtain ⟨i0, hi0, hz0, hz1, hz2⟩ := info_parts info_pitch
  by_cases hskip : (60 < l.length ∧ l.length ≤ 400) ∨ 420 < l.length
  · have three : ((60 : Int) < l.length ∧ (l.length : Int) ≤ 400) ∨ ((60 : Int) < l.length ∧ ¬ ((l.length : Int) ≤ 400) ∧ (420 : Int) < l.length) := by omega
    rcases three with ⟨g1, g2⟩ | ⟨g1, g2, g3⟩
    all_goals
      clear hskip
      go_enter Tryd.func4, Tryd.ntmps4
      go_wp2_with fail
      refine (AW.out _ (w_refl w)).mono ?_
      rintro e w1 ⟨rfl, hb⟩
      go_wp2_with fail
      go_ret
      exact ⟨rfl, hb⟩
  · have hlen : l.length ≤ 420 := by omega
    have three : ¬ ((60 : Int) < l.length) ∧ ¬ ((420 : Int) < l.length) ∨ ((60 : Int) < l.length ∧ ¬ ((l.length : Int) ≤ 400) ∧ ¬ ((420 : Int) < l.length)) := by omega
    clear hskip
    have PM := Lib.hid (fun q c W h b => wsolmize_any q c l W h (TB.out W b))
    have RM := Lib.hid (fun W b => rsolmize_any p cap l W (HS.out.later b))
    have SA := Lib.hid (fun p q cp cq W hp hq => sames_any p q cp cq (solL l) W hp hq)
    unfold SolPost at PM RM
    generalize hsl : solL l = sl at *
    generalize solErr l = se at *
    generalize movesL sl = sm at *
    rcases three with ⟨g1, g2⟩ | ⟨g1, g2, g3⟩
    all_goals
      go_enter Tryd.func4, Tryd.ntmps4
      go_wp2_with (at_builtin; refine wpList_append_sl rfl _ _ 39 rfl w.heap.size 23 i0 (.agg #[.int .i64 0, .int .i64 0, .int .i64 0]) 3 24 Tryd.underlying39 hi0 hz0 hz1 hz2 rfl (by decide) _ 0 (flatP []) rfl (World.ownsRow_lit w #[] 0 (Nat.le_refl _) (by unfold maxLen; omega) rfl) p l.length cap (flatP l) rfl (HS.out.later (w_alloc (w_refl w) _)) (by unfold maxLen; omega) (by omega) (by simp) ?_)
      intro v' w1 hown hgrow
      have HN := Lib.hid (show OwnL w w1 23 3 v' l.length (flatP l) by
        have HA : OwnL w (w.alloc (.cells #[] 23)) 23 3 (.slice (some ⟨w.heap.size, 0, none⟩) 0 0) 0 (flatP []) := ⟨w_alloc (w_refl w) _, World.ownsRow_lit w #[] 0 (Nat.le_refl _) (by unfold maxLen; omega) rfl⟩
        have := HA.app (w_refl _) hown hgrow
        first | exact this | (rw [Nat.zero_add] at this; exact this))
      clear hown hgrow g1 g2
      obtain ⟨q2, c2, rfl, hs2⟩ := SlP.of_own HN.out.row (flatP_len l) (flatP_one l)
      have B1 := Lib.hid HN.out.bel
      have L1 := Lib.hid hs2
      have e1 := hs2.fit
      have e2 := hs2.max
      clear hs2 HN
      go_wp2_with fail
      refine (PM.out q2 c2 _ L1.out B1.out).mono ?_
      rintro e w2 ⟨v, rfl, ⟨q3, c3, rfl, hv⟩, hb⟩
      have B2 := Lib.hid (w_below B1.out hb)
      have L2 := Lib.hid (L1.out.later hb)
      have I2 := Lib.hid hv
      clear hb hv PM B1 L1
      go_wp2_with fail
      refine (RM.out _ B2.out).mono ?_
      rintro e w3 ⟨v, rfl, ⟨q5, c5, rfl, hv⟩, hb⟩
      have B3 := Lib.hid (w_below B2.out hb)
      have L3 := Lib.hid (L2.out.later hb)
      have I3 := Lib.hid (I2.out.later hb)
      have J3 := Lib.hid hv
      clear hb hv RM B2 L2 I2
      go_wp2_with fail
      go_loopw [10] (fun i wr => ∃ k : Nat, k ≤ l.length ∧ i = .int .i64 k ∧ Hid (Below w3.heap.size w3 wr)) (fun i _ => l.length - (intOf i).toNat)
      case atStart => exact ⟨0, by omega, rfl, Lib.hid (w_refl w3)⟩
      case round =>
        obtain ⟨k, hk, rfl, hb⟩ := hrel
        by_cases hlt : k < l.length
        · have hlt' : (k : Int) < l.length := by omega
          obtain ⟨s, hs⟩ : ∃ s, l[k]? = some s := ⟨l[k], List.getElem?_eq_getElem hlt⟩
          obtain ⟨b, off, rfl, _, a0, a1, a2⟩ := (L3.out.later hb.out).pit hs
          obtain ⟨b', off', rfl, _, d0, d1, d2⟩ := (HS.out.later (w_below B3.out hb.out)).pit hs
          have hb9 := Lib.hid hb.out.drew
          clear hs
          go_wp2_with fail
          go_region
          all_goals
            go_wp2_with fail
            go_roundw
            case rel => exact ⟨k + 1, by omega, by go_num, hb9⟩
            case measure => simp [intOf]; omega
        · obtain rfl : k = l.length := by omega
          have B4 := Lib.hid (w_below B3.out hb.out)
          have I4 := Lib.hid (I3.out.later hb.out)
          have J4 := Lib.hid (J3.out.later hb.out)
          clear hb I3 J3 L3 B3
          go_wp2_with fail
          refine (SA.out q3 q5 c3 c5 _ I4.out J4.out).mono ?_
          rintro e w5 ⟨rfl, hb⟩
          have B5 := Lib.hid (w_below B4.out hb)
          clear hb B4 I4 J4 SA
          go_wp2_with fail
          refine (AW.out _ B5.out).mono ?_
          rintro e w6 ⟨rfl, hb⟩
          have B6 := Lib.hid (w_below B5.out hb)
          clear hb B5
          go_wp2_with fail
          go_ret
          exact ⟨rfl, B6.out⟩

end Go.Proofs.YtaldbjhalpgkeaaDoor
