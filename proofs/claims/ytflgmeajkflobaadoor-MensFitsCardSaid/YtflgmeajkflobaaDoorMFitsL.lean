/- MensFits returns true: which values have a full duration is the reference's answer. -/
import Derived.Test.YtflgmeajkflobaaDoorMKnown
namespace Go.Proofs.YtflgmeajkflobaaDoor
open Go.RowKit

set_option maxRecDepth 100000 in
set_option maxHeartbeats 8000000 in
theorem lfits_any (q : Q4) (M D : Int) (w : World) : Calls Tryd.prog 5 #[mv q, tv M D] w fun e w' => e = .returned (.bool true) ∧ Below w.heap.size w w' := by
  have C1 := Lib.hid (fun W => fits_any q M D W)
  have C2 := Lib.hid (fun W => rfits_any q M D W)
  have SI := Lib.hid (fun p c r d W hp hq => samei_any p r c d (fitL q M D) W hp hq)
  have AW := Lib.hid (fun W => awake_any W)
  have K := Lib.hid ((Cell4.made w q 23).later (w_alloc (w_refl _) (.cells #[.int .i64 M, .int .i64 D] 28)))
  have TA := Lib.hid (Own2.made (w.alloc (mO q)) M D 28)
  rw [World.size_alloc] at TA
  have hB := Lib.hid (w_alloc (w_alloc (w_refl w) (mO q)) (.cells #[.int .i64 M, .int .i64 D] 28))
  unfold FitPost at C1 C2
  generalize fitE q M D = E at *
  generalize fitL q M D = ll at *
  obtain ⟨a, b, c, d⟩ := q
  go_enter Tryd.func5, Tryd.ntmps5
  go_wp2_with fail
  refine (C1.out _).mono ?_
  rintro e w1 ⟨_, rfl, ⟨q1, e1, rfl, hs⟩, hb⟩
  have hbX := hb
  replace hB := Lib.hid (w_below hB.out hbX)
  replace K := Lib.hid (K.out.later hbX)
  replace TA := Lib.hid (TA.out.later hbX)
  have L1 := Lib.hid hs
  clear hs
  clear hb hbX
  obtain ⟨_, t0, t1, _, _⟩ := TA.out
  obtain ⟨_, c0, c1, c2, c3, _, _, _, _⟩ := K.out
  simp only at c0 c1 c2 c3
  go_wp2_with fail
  clear c0 c1 c2 c3
  clear t0 t1
  refine (C2.out _).mono ?_
  rintro e w2 ⟨_, rfl, ⟨q2, e2, rfl, hs⟩, hb⟩
  have hbX := hb
  replace hB := Lib.hid (w_below hB.out hbX)
  replace K := Lib.hid (K.out.later hbX)
  replace TA := Lib.hid (TA.out.later hbX)
  replace L1 := Lib.hid (L1.out.later hbX)
  have L2 := Lib.hid hs
  clear hs
  clear hb hbX
  go_wp2_with fail
  refine (SI.out _ _ _ _ _ L1.out L2.out).mono ?_
  rintro e w3 ⟨rfl, hb⟩
  have hbX := hb
  replace hB := Lib.hid (w_below hB.out hbX)
  replace K := Lib.hid (K.out.later hbX)
  replace TA := Lib.hid (TA.out.later hbX)
  replace L1 := Lib.hid (L1.out.later hbX)
  replace L2 := Lib.hid (L2.out.later hbX)
  clear hb hbX
  clear L1 L2
  go_wp2_with fail
  refine (AW.out _).mono ?_
  rintro e w4 ⟨rfl, hb⟩
  have hbX := hb
  replace hB := Lib.hid (w_below hB.out hbX)
  replace K := Lib.hid (K.out.later hbX)
  replace TA := Lib.hid (TA.out.later hbX)
  clear hb hbX
  go_wp2_with fail
  go_ret
  exact ⟨rfl, hB.out⟩

end Go.Proofs.YtflgmeajkflobaaDoor
