/- Statement GamutJoins, as a walk. -/
import Derived.Test.YtaldbjhalpgkeaaDoorGLawG
namespace Go.Proofs.YtaldbjhalpgkeaaDoor
open Go.RowKit

theorem sung_sol : ∀ {l : List Pi3}, (∀ p ∈ l, okP p) → Sung l → solE l = 0
  | [], _, _ => rfl
  | p :: t, h, k => by
    unfold solE
    rw [if_pos (h p (by simp)), if_neg (k p (by simp))]
    exact sung_sol (fun q hq => h q (by simp [hq])) (fun q hq => k q (by simp [hq]))
theorem sings_sol {l : List Pi3} {ws : List Sy} (h : Sings l ws) (hl : l.length ≤ 400) : solErr l = 0 ∧ solL l = bestL l := by
  have e : solErr l = 0 := by
    unfold solErr
    rw [if_neg (by omega)]
    refine sung_sol (fun p hp => ?_) h.sung
    rw [← h.1, List.mem_map] at hp
    obtain ⟨s, hs, rfl⟩ := hp
    exact made_okP (h.2 s hs)
  exact ⟨e, by unfold solL; rw [if_pos e]⟩
/-- What a solmization of a melody that is sung answers. -/
theorem SolPost.sung {l : List Pi3} {ws : List Sy} {w w' : World} {e : Ending} (h : Sings l ws) (hl : l.length ≤ 400) (k : SolPost l w e w') :
    ∃ v, e = .returned (.tuple #[v, .int .i64 (fewL l), .int .i64 0]) ∧ SylV w' v (bestL l) ∧ Below w.heap.size w w' := by
  obtain ⟨e1, e2⟩ := sings_sol h hl
  unfold SolPost at k
  rw [e1, e2] at k
  exact k
theorem sings_made (zs : List Int) : Sings ((madeL zs).map madeS) (madeL zs) := ⟨rfl, madeL_ok zs⟩
theorem madeM_len (zs : List Int) : ((madeL zs).map madeS).length ≤ 30 := by rw [List.length_map]; exact madeL_len zs

set_option maxRecDepth 100000 in
set_option maxHeartbeats 4000000 in
theorem gjoins_any (p q : Option Addr) (cp cq : Nat) (zs ys : List Int) (w : World) (h : SlP w 1 p zs.length cp (ints zs)) (k : SlP w 1 q ys.length cq (ints ys))
    (hz : ∀ z ∈ zs, -9223372036854775808 ≤ z ∧ z ≤ 9223372036854775807) (hy : ∀ z ∈ ys, -9223372036854775808 ≤ z ∧ z ≤ 9223372036854775807) (tab : TabG w)
    (KN : ∀ W, Below w.heap.size w W → Calls Tryd.prog 6 #[] W fun e w' => e = .returned (.bool true) ∧ Below W.heap.size W w') :
    Calls Tryd.prog 9 #[.slice p zs.length cp, .slice q ys.length cq] w fun e w' => e = .returned (.bool true) ∧ Below w.heap.size w w' := by
  obtain ⟨i0, hi0, hz0, hz1, hz2⟩ := info_parts info_pitch
  have TB := Lib.hid (fun W (b : Below w.heap.size w W) => tab.later b)
  have KK := Lib.hid KN
  have MZ := Lib.hid (fun W (b : Below w.heap.size w W) => made4_any p cp zs W (h.later b) hz)
  have MY := Lib.hid (fun W (b : Below w.heap.size w W) => made4_any q cq ys W (k.later b) hy)
  have LZ := Lib.hid (fun p cap W hh b => melody_any p cap (madeL zs) W hh (madeL_ok zs) (by have := madeL_len zs; omega) (TB.out W b))
  have LY := Lib.hid (fun p cap W hh b => melody_any p cap (madeL ys) W hh (madeL_ok ys) (by have := madeL_len ys; omega) (TB.out W b))
  have sz := sings_made zs
  have sy := sings_made ys
  have lz := madeM_len zs
  have ly := madeM_len ys
  have fj := few_join sz.sung sy.sung
  clear h k hz hy tab KN
  generalize hL : (madeL zs).map madeS = L at *
  generalize hM : (madeL ys).map madeS = M at *
  have SZ := Lib.hid (fun q c W hh b => (wsolmize_any q c L W hh (TB.out W b)).mono fun e w' x => x.sung sz (by omega))
  have SY := Lib.hid (fun q c W hh b => (wsolmize_any q c M W hh (TB.out W b)).mono fun e w' x => x.sung sy (by omega))
  have SJ := Lib.hid (fun q c W hh b => (wsolmize_any q c (L ++ M) W hh (TB.out W b)).mono fun e w' x => x.sung (sz.app sy) (by rw [List.length_append]; omega))
  have gz : fewL L ≤ 1000 := by have := few_le sz; have := moves_len (madeL zs); have := madeL_len zs; omega
  have gy : fewL M ≤ 1000 := by have := few_le sy; have := moves_len (madeL ys); have := madeL_len ys; omega
  clear hL hM sz sy
  obtain ⟨j1, j2⟩ := fj
  generalize fewL L = a at *
  generalize fewL M = b at *
  generalize fewL (L ++ M) = c at *
  have j1' : (a : Int) + b ≤ c := by omega
  have j2' : (c : Int) ≤ a + b + 1 := by omega
  have x1 : IntKind.i64.wrap ((a : Int) + b) = a + b := IntWalk.i64_in _ (by omega)
  have x2 : IntKind.i64.wrap ((a : Int) + b + 1) = a + b + 1 := IntWalk.i64_in _ (by omega)
  clear j1 j2 gz gy
  generalize hJ : L ++ M = J at *
  have HJ := Lib.hid hJ
  clear hJ
  go_enter Tryd.func9, Tryd.ntmps9
  go_wp2_with fail
  refine (KK.out _ (w_refl w)).mono ?_
  rintro e w1 ⟨rfl, hb⟩
  have B1 := Lib.hid hb
  clear hb KK
  go_wp2_with fail
  refine (MZ.out _ B1.out).mono ?_
  rintro e w2 ⟨v, rfl, ⟨q2, c2, rfl, hv⟩, hb⟩
  have B2 := Lib.hid (w_below B1.out hb)
  have V2 := Lib.hid hv
  clear hb hv MZ B1
  go_wp2_with fail
  refine (LZ.out _ _ _ V2.out B2.out).mono ?_
  rintro e w3 ⟨v, rfl, ⟨q3, c3, rfl, hv⟩, hb⟩
  have B3 := Lib.hid (w_below B2.out hb)
  have V3 := Lib.hid hv
  clear hb hv LZ B2 V2
  go_wp2_with fail
  refine (MY.out _ B3.out).mono ?_
  rintro e w4 ⟨v, rfl, ⟨q4, c4, rfl, hv⟩, hb⟩
  have B4 := Lib.hid (w_below B3.out hb)
  have V4 := Lib.hid (V3.out.later hb)
  have U4 := Lib.hid hv
  clear hb hv MY B3 V3
  go_wp2_with fail
  refine (LY.out _ _ _ U4.out B4.out).mono ?_
  rintro e w5 ⟨v, rfl, ⟨q5, c5, rfl, hv⟩, hb⟩
  have B5 := Lib.hid (w_below B4.out hb)
  have V5 := Lib.hid (V4.out.later hb)
  have U5 := Lib.hid hv
  clear hb hv LY B4 V4 U4
  go_wp2_with fail
  refine (SZ.out _ _ _ V5.out B5.out).mono ?_
  rintro e w6 ⟨v, rfl, ⟨q6, c6, rfl, _⟩, hb⟩
  have B6 := Lib.hid (w_below B5.out hb)
  have V6 := Lib.hid (V5.out.later hb)
  have U6 := Lib.hid (U5.out.later hb)
  clear hb SZ B5 V5 U5
  go_wp2_with fail
  refine (SY.out _ _ _ U6.out B6.out).mono ?_
  rintro e w7 ⟨v, rfl, ⟨q7, c7, rfl, _⟩, hb⟩
  have B7 := Lib.hid (w_below B6.out hb)
  have V7 := Lib.hid (V6.out.later hb)
  have U7 := Lib.hid (U6.out.later hb)
  clear hb SY B6 V6 U6
  have A7 := Lib.hid (show OwnL w7 (w7.alloc (.cells #[] 23)) 23 3 (.slice (some ⟨w7.heap.size, 0, none⟩) 0 0) 0 (flatP []) from ⟨w_alloc (w_refl w7) _, World.ownsRow_lit w7 #[] 0 (Nat.le_refl _) (by unfold maxLen; omega) rfl⟩)
  go_wp2_with (at_builtin; refine wpList_append_sl rfl _ _ 39 rfl w7.heap.size 23 i0 (.agg #[.int .i64 0, .int .i64 0, .int .i64 0]) 3 24 Tryd.underlying39 hi0 hz0 hz1 hz2 rfl (by decide) _ 0 (flatP []) rfl A7.out.row q3 L.length c3 (flatP L) rfl (V7.out.later (w_alloc (w_refl w7) _)) (by unfold maxLen; omega) (by omega) (by simp) ?_)
  intro v8 w8 hown hgrow
  have N8 := Lib.hid (show OwnL w7 w8 23 3 v8 L.length (flatP L) by
    have := A7.out.app (w_refl _) hown hgrow
    first | exact this | (rw [Nat.zero_add] at this; exact this))
  clear hown hgrow A7 V7
  go_wp2_with (at_builtin; refine wpList_append_sl rfl _ _ 39 rfl w7.heap.size 23 i0 (.agg #[.int .i64 0, .int .i64 0, .int .i64 0]) 3 24 Tryd.underlying39 hi0 hz0 hz1 hz2 rfl (by decide) _ L.length (flatP L) rfl N8.out.row q5 M.length c5 (flatP M) rfl (U7.out.later N8.out.bel) (by unfold maxLen; omega) (by omega) N8.out.bel.size ?_)
  intro v9 w9 hown hgrow
  have N9 := Lib.hid (show OwnL w7 w9 23 3 v9 J.length (flatP J) by
    have := N8.out.app (w_refl _) hown hgrow
    rw [← flatP_app, ← List.length_append, HJ.out] at this; exact this)
  clear hown hgrow N8 U7
  obtain ⟨q9, c9, rfl, hs9⟩ := SlP.of_own N9.out.row (flatP_len _) (flatP_one _)
  have B9 := Lib.hid (w_below B7.out N9.out.bel)
  have V9 := Lib.hid hs9
  clear hs9 N9 B7
  go_wp2_with fail
  refine (SJ.out _ _ _ V9.out B9.out).mono ?_
  rintro e w10 ⟨v, rfl, ⟨q10, c10, rfl, _⟩, hb⟩
  have B10 := Lib.hid (w_below B9.out hb)
  clear hb SJ B9 V9
  go_wp2_with fail
  go_ret
  exact ⟨rfl, B10.out⟩

end Go.Proofs.YtaldbjhalpgkeaaDoor
