/- The law on texts of pitches. -/
import Derived.Test.YtpkihehacocbhaaDoorPLawD
namespace Go.Proofs.YtpkihehacocbhaaDoor
open Go.RowKit

set_option maxRecDepth 100000 in
set_option maxHeartbeats 4000000 in
theorem ptexts_any (p : Pi3) (s : ByteArray) (w : World) (hs : s.size ≤ maxLen) (tab : Tab w) :
    Calls Tryd.prog 5 #[pv p, .string s] w fun e w' => e = .returned (.bool true) ∧ Below w.heap.size w w' := by
  have TB := Lib.hid (fun W (b : Below w.heap.size w W) => tab.later b)
  clear tab
  unfold maxLen at hs
  by_cases hbig : 100 < s.size
  · have hbig' : (100 : Int) < s.size := by omega
    go_enter Tryd.func5, Tryd.ntmps5
    go_wp2_with fail
    refine (pwake_any _ (TB.out _ (w_alloc (w_refl w) (pO p)))).mono ?_
    rintro e w9 ⟨rfl, hb⟩
    have B1 := Lib.hid (w_below (w_alloc (w_refl w) _) hb)
    clear hb
    go_wp2_with fail
    go_ret
    exact ⟨rfl, B1.out⟩
  · have hbig' : (s.size : Int) ≤ 100 := by omega
    have TW := Lib.hid (fun W (b : Below w.heap.size w W) => wtext_any p W (TB.out W b))
    have TR := Lib.hid (fun W => rtext_any p W)
    have PW := Lib.hid (fun W (b : Below w.heap.size w W) => wparse_any s W (TB.out W b) (by unfold maxLen; omega))
    have PR := Lib.hid (fun W => rparse_any s W)
    unfold TextPost at TW TR
    generalize (textV p).1 = t at *
    generalize (textV p).2 = n at *
    go_enter Tryd.func5, Tryd.ntmps5
    go_wp2_with fail
    refine (TW.out _ (w_alloc (w_refl w) (pO p))).mono ?_
    rintro e w1 ⟨rfl, hb⟩
    have C1 := Lib.hid ((Cell3.made w p 23).later hb)
    have B1 := Lib.hid (w_below (w_alloc (w_refl w) (pO p)) hb)
    obtain ⟨_, c0, c1, c2, _, _, _⟩ := C1.out
    clear hb TW
    go_wp2_with fail
    refine (TR.out _).mono ?_
    rintro e w2 ⟨rfl, hb⟩
    have B2 := Lib.hid (w_below B1.out hb)
    clear hb TR B1 C1 c0 c1 c2
    go_wp2_with fail
    refine (PW.out _ B2.out).mono ?_
    rintro e w3 ⟨r, hr, rfl, hb⟩
    have C3 := Lib.hid (Cell3.made w3 r.1 23)
    have B3 := Lib.hid (w_alloc (w_below B2.out hb) (pO r.1))
    clear hb PW B2
    go_wp2_with fail
    refine (PR.out _).mono ?_
    rintro e w4 ⟨r', hr', rfl, hb⟩
    obtain rfl := hr.one hr'
    have hw := w_below hb (w_alloc (w_refl w4) (pO r.1))
    obtain ⟨_, c0, c1, c2, _, _, _⟩ := C3.out.later hw
    obtain ⟨_, d0, d1, d2, _, _, _⟩ := Cell3.made w4 r.1 23
    have B4 := Lib.hid (w_below B3.out hw)
    clear hb hw PR B3 C3 hr hr'
    go_wp2_with fail
    refine (pwake_any _ (TB.out _ B4.out)).mono ?_
    rintro e w9 ⟨rfl, hb⟩
    have B10 := Lib.hid (w_below B4.out hb)
    clear hb B4
    go_wp2_with fail
    go_ret
    exact ⟨rfl, B10.out⟩

end Go.Proofs.YtpkihehacocbhaaDoor
