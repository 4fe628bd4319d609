/- The statements' own examples: awake. -/
import Derived.Test.YtaldbjhalpgkeaaDoorGLawB
namespace Go.Proofs.YtaldbjhalpgkeaaDoor
open Go.RowKit

/-- A list that is written out. -/
theorem SlP.lit (w : World) (l : List Sy) (t : TypeId) (h : l.length ≤ 1000) : SlP (w.alloc (.cells (flatS l).toArray t)) 2 (some ⟨w.heap.size, 0, none⟩) l.length l.length (flatS l) := by
  refine ⟨flatS_len l, Nat.le_refl _, by omega, fun e => (by cases e), flatS_one l, fun _ => ⟨w.heap.size, 0, rfl, by simp, fun j u hj => ?_⟩⟩
  have := lit_new w (flatS l).toArray t j u (by simpa using hj)
  rwa [add_none] at this
theorem wk_solE : solErr (fromL 7 7) = 0 := by decide +kernel
theorem wk_solL : solL (fromL 7 7) = [(4, 1), (4, 2), (4, 3), (4, 4), (4, 5), (4, 6), (5, 4)] := by decide +kernel
theorem wk_name : nameV 9 = (⟨#[98, 32, 102, 97, 32, 98, 32, 109, 105]⟩, 0) := by decide +kernel
theorem wk_ways : waysL (natP 14) = [(5, 5), (6, 2), (7, 1)] := by decide +kernel
theorem wk_ok : okP (natP 14) := by decide +kernel

set_option maxRecDepth 100000 in
set_option maxHeartbeats 4000000 in
theorem gwake_any (w : World) (tab : TabG w) : Calls Tryd.prog 22 #[] w fun e w' => e = .returned (.bool true) ∧ Below w.heap.size w w' := by
  have TB := Lib.hid (fun W (b : Below w.heap.size w W) => tab.later b)
  clear tab
  have FR := Lib.hid (fun W => from_any 7 7 (by decide) W)
  have SO := Lib.hid (fun p cap W h b => wsolmize_any p cap (fromL 7 7) W h (TB.out W b))
  have NM := Lib.hid (fun W b => wname_any 9 W (TB.out W b))
  rw [wk_name] at NM
  have SY := Lib.hid (fun a b W => syl_any a b W)
  have NA := Lib.hid (fun W => natural_any 14 (by decide) W)
  have SA := Lib.hid (fun p q cp cq l W hp hq => sames_any p q cp cq l W hp hq)
  have SU := Lib.hid (fun q cap W h b => sung_any (natP 14) q cap [(5, 5), (6, 2), (7, 1)] W wk_ok wk_ways h (TB.out W b))
  go_enter Tryd.func22, Tryd.ntmps22
  go_wp2_with fail
  refine (FR.out _).mono ?_
  rintro e w1 ⟨v, rfl, ⟨q1, c1, rfl, hs1⟩, hb⟩
  have B1 := Lib.hid hb
  have S1 := Lib.hid (SO.out q1 c1 w1 hs1 hb)
  unfold SolPost at S1
  rw [wk_solE, wk_solL] at S1
  have e7 : (fromL 7 7).length = 7 := rfl
  rw [e7] at S1
  simp only [e7]
  clear hb hs1 FR SO e7
  go_wp2_with fail
  refine S1.out.mono ?_
  rintro e w2 ⟨v, rfl, ⟨q2, c2, rfl, hs2⟩, hb⟩
  have B2 := Lib.hid (w_below B1.out hb)
  have L2 := Lib.hid hs2
  clear hb hs2 S1 B1
  go_wp2_with fail
  refine (NM.out _ B2.out).mono ?_
  rintro e w3 ⟨rfl, hb⟩
  have B3 := Lib.hid (w_below B2.out hb)
  have L3 := Lib.hid (L2.out.later hb)
  clear hb NM B2 L2
  go_wp2_with fail
  refine (SY.out 4 1 _).mono ?_
  rintro e w4 ⟨rfl, hb⟩
  have B4 := Lib.hid (w_below B3.out hb)
  have L4 := Lib.hid (L3.out.later hb)
  clear hb B3 L3
  go_wp2_with fail
  refine (SY.out 4 2 _).mono ?_
  rintro e w5 ⟨rfl, hb⟩
  have B5 := Lib.hid (w_below B4.out hb)
  have L5 := Lib.hid (L4.out.later hb)
  clear hb B4 L4
  go_wp2_with fail
  refine (SY.out 4 3 _).mono ?_
  rintro e w6 ⟨rfl, hb⟩
  have B6 := Lib.hid (w_below B5.out hb)
  have L6 := Lib.hid (L5.out.later hb)
  clear hb B5 L5
  go_wp2_with fail
  refine (SY.out 4 4 _).mono ?_
  rintro e w7 ⟨rfl, hb⟩
  have B7 := Lib.hid (w_below B6.out hb)
  have L7 := Lib.hid (L6.out.later hb)
  clear hb B6 L6
  go_wp2_with fail
  refine (SY.out 4 5 _).mono ?_
  rintro e w8 ⟨rfl, hb⟩
  have B8 := Lib.hid (w_below B7.out hb)
  have L8 := Lib.hid (L7.out.later hb)
  clear hb B7 L7
  go_wp2_with fail
  refine (SY.out 4 6 _).mono ?_
  rintro e w9 ⟨rfl, hb⟩
  have B9 := Lib.hid (w_below B8.out hb)
  have L9 := Lib.hid (L8.out.later hb)
  clear hb B8 L8
  go_wp2_with fail
  refine (SY.out 5 4 _).mono ?_
  rintro e w10 ⟨rfl, hb⟩
  have B10 := Lib.hid (w_below B9.out hb)
  have L10 := Lib.hid (L9.out.later hb)
  clear hb B9 L9
  go_wp2_with fail
  have BL := Lib.hid (w_alloc B10.out (.cells (flatS [(4, 1), (4, 2), (4, 3), (4, 4), (4, 5), (4, 6), (5, 4)]).toArray 25))
  refine (SA.out q2 (some ⟨w10.heap.size, 0, none⟩) c2 7 [(4, 1), (4, 2), (4, 3), (4, 4), (4, 5), (4, 6), (5, 4)] _ (L10.out.later (w_alloc (w_refl _) _)) (SlP.lit w10 _ 25 (by decide))).mono ?_
  rintro e w11 ⟨rfl, hb⟩
  have B11 := Lib.hid (w_below BL.out hb)
  clear hb BL B10 L10
  go_wp2_with fail
  refine (NA.out _).mono ?_
  rintro e w12 ⟨rfl, hb⟩
  have B12 := Lib.hid (w_below B11.out hb)
  clear hb B11
  go_wp2_with fail
  refine (SY.out 5 5 _).mono ?_
  rintro e w13 ⟨rfl, hb⟩
  have B13 := Lib.hid (w_below B12.out hb)
  clear hb B12
  go_wp2_with fail
  refine (SY.out 6 2 _).mono ?_
  rintro e w14 ⟨rfl, hb⟩
  have B14 := Lib.hid (w_below B13.out hb)
  clear hb B13
  go_wp2_with fail
  refine (SY.out 7 1 _).mono ?_
  rintro e w15 ⟨rfl, hb⟩
  have B15 := Lib.hid (w_below B14.out hb)
  clear hb B14
  go_wp2_with fail
  have BL := Lib.hid (w_alloc B15.out (.cells (flatS [(5, 5), (6, 2), (7, 1)]).toArray 25))
  refine (SU.out (some ⟨w15.heap.size, 0, none⟩) 3 _ (SlP.lit w15 _ 25 (by decide)) BL.out).mono ?_
  rintro e w16 ⟨rfl, hb⟩
  have B16 := Lib.hid (w_below BL.out hb)
  clear hb BL B15
  go_wp2_with fail
  go_ret
  exact ⟨rfl, B16.out⟩

end Go.Proofs.YtaldbjhalpgkeaaDoor
