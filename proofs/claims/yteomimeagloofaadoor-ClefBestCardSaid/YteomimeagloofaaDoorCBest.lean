/- Statement ClefBest, as a walk. -/
import Derived.Test.YteomimeagloofaaDoorCMoved
import Derived.Test.YteomimeagloofaaDoorKApp
namespace Go.Proofs.YteomimeagloofaaDoor
open Go.RowKit

set_option maxRecDepth 100000 in
set_option maxHeartbeats 4000000 in
theorem lbest_any (k0 : Int) (p : Option Addr) (cap : Nat) (l : List Pi3) (w : World) (T : TabC w) (h : SlP w 3 p l.length cap (flatP l)) :
    Calls Tryd.prog 5 #[.int .i64 k0, .slice p l.length cap] w fun e w' => e = .returned (.bool true) ∧ Below w.heap.size w w' := by
  have f1 := h.fit
  have f2 := h.max
  have HS := Lib.hid h
  have AW := Lib.hid (fun W (b : Below w.heap.size w W) => cwake_any W (T.later b))
  clear h
  obtain ⟨i0, hi0, hz0, hz1, hz2⟩ := info_parts info_pitch
  by_cases hskip : 60 < l.length
  · have g1 : (60 : Int) < l.length := by omega
    clear hskip
    clear T
    go_enter Tryd.func5, Tryd.ntmps5
    go_wp2_with fail
    refine (AW.out _ (w_refl w)).mono ?_
    rintro e w1 ⟨rfl, hb⟩
    go_wp2_with fail
    go_ret
    exact ⟨rfl, hb⟩
  · have hlen : l.length ≤ 60 := by omega
    have g1 : ¬ (60 : Int) < l.length := by omega
    clear hskip
    have PM := Lib.hid (fun q c W (b : Below w.heap.size w W) h => cbest_any k0 q c l (by omega) W (T.later b) h)
    have RM := Lib.hid (fun W (b : Below w.heap.size w W) => rbest_any k0 p cap l (by omega) W (HS.out.later b))
    unfold BesPost at PM RM
    generalize besC k0 l = bc at *
    generalize besE k0 l = be at *
    obtain ⟨s0, l0⟩ := bc
    clear T
    go_enter Tryd.func5, Tryd.ntmps5
    go_wp2_with (at_builtin; refine wpList_append_sl rfl _ _ 38 rfl w.heap.size 25 i0 (.agg #[.int .i64 0, .int .i64 0, .int .i64 0]) 3 24 Tryd.underlying38 hi0 hz0 hz1 hz2 rfl (by decide) _ 0 (flatP []) rfl (World.ownsRow_lit w #[] 0 (Nat.le_refl _) (by unfold maxLen; omega) rfl) p l.length cap (flatP l) rfl (HS.out.later (w_alloc (w_refl w) _)) (by unfold maxLen; omega) (by omega) (by simp) ?_)
    intro v' w1 hown hgrow
    have HN := Lib.hid (show OwnL w w1 25 3 v' l.length (flatP l) by
      have HA : OwnL w (w.alloc (.cells #[] 25)) 25 3 (.slice (some ⟨w.heap.size, 0, none⟩) 0 0) 0 (flatP []) := ⟨w_alloc (w_refl w) _, World.ownsRow_lit w #[] 0 (Nat.le_refl _) (by unfold maxLen; omega) rfl⟩
      have := HA.app (w_refl _) hown hgrow
      first | exact this | (rw [Nat.zero_add] at this; exact this))
    clear hown hgrow
    obtain ⟨q2, c2, rfl, hs2⟩ := SlP.of_own HN.out.row (flatP_len l) (flatP_one l)
    have B1 := Lib.hid HN.out.bel
    have L1 := Lib.hid hs2
    have e1 := hs2.fit
    have e2 := hs2.max
    clear hs2 HN
    go_wp2_with fail
    refine (PM.out q2 c2 _ B1.out L1.out).mono ?_
    rintro e w2 ⟨rfl, hb⟩
    have hb9 := w_alloc hb (cO (s0, l0))
    have B2 := Lib.hid (w_below B1.out hb9)
    have L2 := Lib.hid (L1.out.later hb9)
    have KC := Lib.hid (Two2.made w2 (s0, l0) 23)
    clear hb hb9 PM B1 L1
    go_wp2_with fail
    refine (RM.out _ B2.out).mono ?_
    rintro e w3 ⟨rfl, hb⟩
    have hb9 := w_alloc hb (cO (s0, l0))
    have B3 := Lib.hid (w_below B2.out hb9)
    have L3 := Lib.hid (L2.out.later hb9)
    replace KC := Lib.hid (KC.out.later hb9)
    have KD := Lib.hid (Two2.made w3 (s0, l0) 23)
    clear hb hb9 RM B2 L2
    go_wp2_with fail
    go_loopw [10] (fun i wr => ∃ k : Nat, k ≤ l.length ∧ i = .int .i64 k ∧ Hid (SlP wr 3 q2 l.length c2 (flatP l)) ∧ Hid (Two2 wr w2.heap.size (s0, l0)) ∧ Hid (Two2 wr w3.heap.size (s0, l0)) ∧ Hid (Below w.heap.size w wr)) (fun i _ => l.length - (intOf i).toNat)
    case atStart => exact ⟨0, by omega, rfl, L3, KC, KD, B3⟩
    case round =>
      clear L3 KC KD B3
      obtain ⟨k, hk, rfl, L4, KC, KD, B4⟩ := hrel
      by_cases hlt : k < l.length
      · have hlt' : (k : Int) < l.length := by omega
        obtain ⟨s, hs⟩ : ∃ s, l[k]? = some s := ⟨l[k], List.getElem?_eq_getElem hlt⟩
        obtain ⟨b, off, rfl, _, a0, a1, a2⟩ := L4.out.pit hs
        obtain ⟨b', off', rfl, _, d0, d1, d2⟩ := (HS.out.later B4.out).pit hs
        have hbd := fun (X : World) => w_refl X
        clear hs
        go_wp2_with fail
        go_region
        all_goals
          go_wp2_with fail
          go_roundw
          case rel => exact ⟨k + 1, by omega, by go_num, Lib.hid (L4.out.later (w_refl _).drew), Lib.hid (KC.out.later (w_refl _).drew), Lib.hid (KD.out.later (w_refl _).drew), Lib.hid B4.out.drew⟩
          case measure => simp [intOf]; omega
      · obtain rfl : k = l.length := by omega
        obtain ⟨_, k1, k2, _, _⟩ := KC.out
        obtain ⟨_, k3, k4, _, _⟩ := KD.out
        simp only at k1 k2 k3 k4
        clear L4 KC KD
        go_wp2_with fail
        refine (AW.out _ B4.out).mono ?_
        rintro e w6 ⟨rfl, hb⟩
        have B6 := Lib.hid (w_below B4.out hb)
        clear hb B4
        go_wp2_with fail
        go_ret
        exact ⟨rfl, B6.out⟩

end Go.Proofs.YteomimeagloofaaDoor
