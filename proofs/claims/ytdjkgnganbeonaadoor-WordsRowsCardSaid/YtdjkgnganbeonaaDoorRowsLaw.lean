/- The law on the rows of one text. -/
import Derived.Test.YtdjkgnganbeonaaDoorWake
namespace Go.Proofs.YtdjkgnganbeonaaDoor
open Go.RowKit

set_option maxRecDepth 100000 in
set_option maxHeartbeats 4000000 in
theorem rowslaw_any (s : ByteArray) (w : World) (hm : s.size ≤ maxLen) : Calls Tryd.prog 3 #[.string s] w fun e w' => e = .returned (.bool true) ∧ Below w.heap.size w w' := by
  have hm' := hm
  unfold maxLen at hm'
  by_cases hs : s.size ≤ 30000
  · have R1 := Lib.hid (fun W => wrows_any s W (by omega))
    have R2 := Lib.hid (fun W => rrows_any s W (by omega))
    go_enter Tryd.func3, Tryd.ntmps3
    go_wp2_with fail
    refine (R1.out _).mono ?_
    rintro e w1 ⟨rs, b, v, hres, hb1, rfl, hv1⟩
    have hv := Lib.hid hv1
    have hb := Lib.hid hb1
    clear hv1 hb1
    generalize hfe : fE b = x
    generalize hfa : fA b = y
    have hfe' := Lib.hid hfe
    have hfa' := Lib.hid hfa
    clear hfe hfa
    go_wp2_with fail
    refine (R2.out _).mono ?_
    rintro e w2 ⟨rs2, b2, v2, hres2, hb2, rfl, hv2⟩
    obtain ⟨rfl, rfl⟩ := hres.one hres2
    rw [hfe'.out, hfa'.out]
    have hw1 : Below w1.heap.size w1 (w1.alloc (.cells #[.int .i64 x, .int .i64 y] 26)) := w_alloc (w_refl w1) _
    have hv3 : RowsV w2 v rs := (hv.out.later hw1).later hb2
    have hc2 : Cell2 w2 w1.heap.size x y := (Cell2.made w1 x y 26).below hb2 (by simp)
    have hc3 := Lib.hid (hc2.below (w_alloc (w_refl w2) (.cells #[.int .i64 x, .int .i64 y] 26)) hc2.inb)
    have hd3 := Lib.hid (Cell2.made w2 x y 26)
    have hv4 := Lib.hid (hv3.later (w_alloc (w_refl w2) (.cells #[.int .i64 x, .int .i64 y] 26)))
    have hv5 := Lib.hid (hv2.later (w_alloc (w_refl w2) (.cells #[.int .i64 x, .int .i64 y] 26)))
    have hb5 := Lib.hid (w_alloc (w_below hb.out (w_below hw1 hb2)) (.cells #[.int .i64 x, .int .i64 y] 26))
    clear hv hb hv2 hb2 hv3 hc2 hw1 hres hres2 hfe' hfa' R1 R2
    go_wp2_with fail
    refine (same_any _ _ _ _ _ _ hv4.out hv5.out (SameR.refl true _)).mono ?_
    rintro e w3 ⟨rfl, hb6⟩
    have hc6 := hc3.out.below hb6 hc3.out.inb
    have hd6 := hd3.out.below hb6 hd3.out.inb
    have hb7 := Lib.hid (w_below hb5.out hb6)
    clear hv4 hv5 hc3 hd3 hb5 hb6
    obtain ⟨_, o0, o1, o2, o3⟩ := hc6
    obtain ⟨_, p0, p1, p2, p3⟩ := hd6
    go_wp2_with fail
    refine (wake_any _).mono ?_
    rintro e w4 ⟨rfl, hb8⟩
    have hb9 := Lib.hid (w_below hb7.out hb8)
    clear hb7 hb8
    go_wp2_with fail
    go_ret
    exact ⟨rfl, hb9.out⟩
  · go_enter Tryd.func3, Tryd.ntmps3
    go_wp2_with fail
    refine (wake_any _).mono ?_
    rintro e w1 ⟨rfl, hb1⟩
    go_wp2_with fail
    go_ret
    exact ⟨rfl, hb1⟩

end Go.Proofs.YtdjkgnganbeonaaDoor
