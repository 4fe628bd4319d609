/- MensParts returns true: parts, full durations, perfect values and numbers are the reference's. -/
import Derived.Test.YtflgmeajkflobaaDoorMKnown
namespace Go.Proofs.YtflgmeajkflobaaDoor
open Go.RowKit

set_option maxRecDepth 100000 in
set_option maxHeartbeats 8000000 in
theorem lparts_any (q : Q4) (v : Int) (w : World) : Calls Tryd.prog 3 #[mv q, .int .i64 v] w fun e w' => e = .returned (.bool true) ∧ Below w.heap.size w w' := by
  have C1 := Lib.hid (fun W => parts_any q v W)
  have C2 := Lib.hid (fun W => rparts_any q v W)
  have C3 := Lib.hid (fun W => full_any q v W)
  have C4 := Lib.hid (fun W => rfull_any q v W)
  have C5 := Lib.hid (fun W => above_any q v W)
  have C6 := Lib.hid (fun W => rabove_any q v W)
  have C7 := Lib.hid (fun W => levels_any q W)
  have C8 := Lib.hid (fun W => rlevels_any q W)
  have C9 := Lib.hid (fun W => number_any q W)
  have C10 := Lib.hid (fun W => rmnumber_any q W)
  have C11 := Lib.hid (fun W => mcheck_any q W)
  have C12 := Lib.hid (fun W => rmcheck_any q W)
  have SI := Lib.hid (fun p c r d W hp hq => samei_any p r c d (lvlL q) W hp hq)
  have AW := Lib.hid (fun W => awake_any W)
  have K := Lib.hid (Cell4.made w q 23)
  unfold LvlPost at C7 C8
  unfold NumPost at C9 C10
  generalize parV q v = pa at *
  generalize valE q v = E at *
  generalize aboV q v = ab at *
  generalize numV q = nu at *
  generalize chkM q = ch at *
  generalize lvlL q = ll at *
  generalize fulV q v = fu at *
  obtain ⟨M, D, F⟩ := fu
  obtain ⟨a, b, c, d⟩ := q
  go_enter Tryd.func3, Tryd.ntmps3
  have hB := Lib.hid (w_alloc (w_refl w) (mO (a, b, c, d)))
  go_wp2_with fail
  refine (C1.out _).mono ?_
  rintro e w1 ⟨rfl, hb⟩
  have hbX := hb
  replace hB := Lib.hid (w_below hB.out hbX)
  replace K := Lib.hid (K.out.later hbX)
  clear hb hbX
  obtain ⟨_, c0, c1, c2, c3, _, _, _, _⟩ := K.out
  simp only at c0 c1 c2 c3
  go_wp2_with fail
  clear c0 c1 c2 c3
  refine (C2.out _).mono ?_
  rintro e w2 ⟨rfl, hb⟩
  have hbX := hb
  replace hB := Lib.hid (w_below hB.out hbX)
  replace K := Lib.hid (K.out.later hbX)
  clear hb hbX
  obtain ⟨_, c0, c1, c2, c3, _, _, _, _⟩ := K.out
  simp only at c0 c1 c2 c3
  go_wp2_with fail
  clear c0 c1 c2 c3
  refine (C3.out _).mono ?_
  rintro e w3 ⟨rfl, hb⟩
  have hbX := w_alloc hb (.cells #[.int .i64 M, .int .i64 D] 28)
  replace hB := Lib.hid (w_below hB.out hbX)
  replace K := Lib.hid (K.out.later hbX)
  have TA := Lib.hid (Own2.made w3 M D 28)
  clear hb hbX
  obtain ⟨_, c0, c1, c2, c3, _, _, _, _⟩ := K.out
  simp only at c0 c1 c2 c3
  go_wp2_with fail
  clear c0 c1 c2 c3
  refine (C4.out _).mono ?_
  rintro e w4 ⟨rfl, hb⟩
  have hbX := w_alloc hb (.cells #[.int .i64 M, .int .i64 D] 28)
  replace hB := Lib.hid (w_below hB.out hbX)
  replace K := Lib.hid (K.out.later hbX)
  replace TA := Lib.hid (TA.out.later hbX)
  have TB := Lib.hid (Own2.made w4 M D 28)
  clear hb hbX
  obtain ⟨_, a0, a1, _, _⟩ := TA.out
  obtain ⟨_, b0, b1, _, _⟩ := TB.out
  obtain ⟨_, c0, c1, c2, c3, _, _, _, _⟩ := K.out
  simp only at c0 c1 c2 c3
  go_wp2_with fail
  clear c0 c1 c2 c3
  clear a0 a1 b0 b1 TA TB
  refine (C5.out _).mono ?_
  rintro e w5 ⟨rfl, hb⟩
  have hbX := hb
  replace hB := Lib.hid (w_below hB.out hbX)
  replace K := Lib.hid (K.out.later hbX)
  clear hb hbX
  obtain ⟨_, c0, c1, c2, c3, _, _, _, _⟩ := K.out
  simp only at c0 c1 c2 c3
  go_wp2_with fail
  clear c0 c1 c2 c3
  refine (C6.out _).mono ?_
  rintro e w6 ⟨rfl, hb⟩
  have hbX := hb
  replace hB := Lib.hid (w_below hB.out hbX)
  replace K := Lib.hid (K.out.later hbX)
  clear hb hbX
  obtain ⟨_, c0, c1, c2, c3, _, _, _, _⟩ := K.out
  simp only at c0 c1 c2 c3
  go_wp2_with fail
  clear c0 c1 c2 c3
  refine (C7.out _).mono ?_
  rintro e w7 ⟨_, rfl, ⟨q1, e1, rfl, hs⟩, hb⟩
  have hbX := hb
  replace hB := Lib.hid (w_below hB.out hbX)
  replace K := Lib.hid (K.out.later hbX)
  have L1 := Lib.hid hs
  clear hs
  clear hb hbX
  obtain ⟨_, c0, c1, c2, c3, _, _, _, _⟩ := K.out
  simp only at c0 c1 c2 c3
  go_wp2_with fail
  clear c0 c1 c2 c3
  refine (C8.out _).mono ?_
  rintro e w8 ⟨_, rfl, ⟨q2, e2, rfl, hs⟩, hb⟩
  have hbX := hb
  replace hB := Lib.hid (w_below hB.out hbX)
  replace K := Lib.hid (K.out.later hbX)
  replace L1 := Lib.hid (L1.out.later hbX)
  have L2 := Lib.hid hs
  clear hs
  clear hb hbX
  go_wp2_with fail
  refine (SI.out _ _ _ _ _ L1.out L2.out).mono ?_
  rintro e w9 ⟨rfl, hb⟩
  have hbX := hb
  replace hB := Lib.hid (w_below hB.out hbX)
  replace K := Lib.hid (K.out.later hbX)
  replace L1 := Lib.hid (L1.out.later hbX)
  replace L2 := Lib.hid (L2.out.later hbX)
  clear hb hbX
  clear L1 L2
  obtain ⟨_, c0, c1, c2, c3, _, _, _, _⟩ := K.out
  simp only at c0 c1 c2 c3
  go_wp2_with fail
  clear c0 c1 c2 c3
  refine (C9.out _).mono ?_
  rintro e w10 ⟨rfl, hb⟩
  have hbX := hb
  replace hB := Lib.hid (w_below hB.out hbX)
  replace K := Lib.hid (K.out.later hbX)
  clear hb hbX
  obtain ⟨_, c0, c1, c2, c3, _, _, _, _⟩ := K.out
  simp only at c0 c1 c2 c3
  go_wp2_with fail
  clear c0 c1 c2 c3
  refine (C10.out _).mono ?_
  rintro e w11 ⟨rfl, hb⟩
  have hbX := hb
  replace hB := Lib.hid (w_below hB.out hbX)
  replace K := Lib.hid (K.out.later hbX)
  clear hb hbX
  go_wp2_with fail
  have FX := Lib.hid (show _ ∧ _ from ⟨hB.out.drew, K.out.later (w_refl _).drew⟩)
  clear hB K
  go_region_held3 (fun W => W.cell? ⟨w.heap.size, 0, none⟩ = some (.int .i64 a) ∧ W.cell? ⟨w.heap.size, 1, none⟩ = some (.int .i64 b) ∧ W.cell? ⟨w.heap.size, 2, none⟩ = some (.int .i64 c) ∧ W.cell? ⟨w.heap.size, 3, none⟩ = some (.int .i64 d))
    (first
      | exact ⟨FX.out.2.c0, FX.out.2.c1, FX.out.2.c2, FX.out.2.c3⟩
      | fail)
    (first
      | (go_at_call 21; refine (C11.out _).mono ?_; rintro e wn ⟨rfl, hb⟩; replace FX := Lib.hid (show _ ∧ _ from ⟨w_below FX.out.1 hb, FX.out.2.later hb⟩); clear hb C11)
      | (go_at_call 22; refine (C12.out _).mono ?_; rintro e wn ⟨rfl, hb⟩; replace FX := Lib.hid (show _ ∧ _ from ⟨w_below FX.out.1 hb, FX.out.2.later hb⟩); clear hb C12)
      | (go_at_call 23; refine (AW.out _).mono ?_; rintro e wn ⟨rfl, hb⟩; replace FX := Lib.hid (show _ ∧ _ from ⟨w_below FX.out.1 hb, FX.out.2.later hb⟩); clear hb AW)
      | fail)
  all_goals
    go_wp2_with fail
    go_ret
    exact ⟨rfl, FX.out.1⟩

end Go.Proofs.YtflgmeajkflobaaDoor
