/- The laws on numbers and texts that are read back, and on moves. -/
import Derived.Test.YtpkihehacocbhaaDoorPLawA
namespace Go.Proofs.YtpkihehacocbhaaDoor
open Go.RowKit

abbrev pO (p : Pi3) : Obj := .cells #[.int .i64 p.1, .int .i64 p.2.1, .int .i64 p.2.2] 23

set_option maxRecDepth 100000 in
set_option maxHeartbeats 4000000 in
theorem pback_any (n : Int) (w : World) (hn : -9223372036854775808 ≤ n ∧ n ≤ 9223372036854775807) (tab : Tab w) :
    Calls Tryd.prog 6 #[.int .i64 n] w fun e w' => e = .returned (.bool true) ∧ Below w.heap.size w w' := by
  have TB := Lib.hid (fun W (b : Below w.heap.size w W) => tab.later b)
  clear tab
  have PA := Lib.hid (fun W => pitch_any n W hn.1 hn.2)
  have oa := madeP_ok n
  generalize madeP n = p at *
  clear hn
  have NU := Lib.hid (fun W => wnumber_any p W)
  rw [numV_ok oa] at NU
  have OF := Lib.hid (fun W => wof_any (numI p) p.2.2 W (by have := num_bd oa; omega) (by have := num_bd oa; omega))
  unfold OfPost at OF
  rw [of_num oa] at OF
  have TX := Lib.hid (fun W (b : Below w.heap.size w W) => wtext_any p W (TB.out W b))
  unfold TextPost at TX
  rw [textV_ok oa] at TX
  have PS := Lib.hid (fun W (b : Below w.heap.size w W) => wparse_any ⟨(textL p).toArray⟩ W (TB.out W b) (text_size p))
  have BK := Lib.hid (fun r (h : ParseR ⟨(textL p).toArray⟩ r) => ParseR.back oa h)
  clear oa
  generalize (⟨(textL p).toArray⟩ : ByteArray) = t at *
  generalize numI p = m at *
  go_enter Tryd.func6, Tryd.ntmps6
  go_wp2_with fail
  refine (PA.out _).mono ?_
  rintro e w1 ⟨rfl, hb⟩
  have C1 := Lib.hid (Cell3.made w1 p 23)
  have B1 := Lib.hid (w_alloc hb (pO p))
  clear hb PA
  go_wp2_with fail
  refine (NU.out _).mono ?_
  rintro e w2 ⟨rfl, hb⟩
  have C2 := Lib.hid (C1.out.later hb)
  have B2 := Lib.hid (w_below B1.out hb)
  obtain ⟨_, c0, c1, c2, _, _, _⟩ := C2.out
  clear hb NU B1 C1
  go_wp2_with fail
  refine (OF.out _).mono ?_
  rintro e w3 ⟨rfl, hb⟩
  have hw := w_below hb (w_alloc (w_refl w3) (pO p))
  have C3 := Lib.hid (C2.out.later hw)
  have D3 := Lib.hid (Cell3.made w3 p 23)
  have B3 := Lib.hid (w_below B2.out hw)
  clear c0 c1 c2
  obtain ⟨_, c0, c1, c2, _, _, _⟩ := C3.out
  clear hb hw OF B2 C2
  go_wp2_with fail
  refine (TX.out _ B3.out).mono ?_
  rintro e w4 ⟨rfl, hb⟩
  have C4 := Lib.hid (C3.out.later hb)
  have D4 := Lib.hid (D3.out.later hb)
  have B4 := Lib.hid (w_below B3.out hb)
  clear hb TX B3 C3 D3 c0 c1 c2
  go_wp2_with fail
  refine (PS.out _ B4.out).mono ?_
  rintro e w5 ⟨r, hr, rfl, hb⟩
  obtain rfl := BK.out r hr
  have hw := w_below hb (w_alloc (w_refl w5) (pO p))
  obtain ⟨_, c0, c1, c2, _, _, _⟩ := C4.out.later hw
  obtain ⟨_, d0, d1, d2, _, _, _⟩ := D4.out.later hw
  obtain ⟨_, e0, e1, e2, _, _, _⟩ := Cell3.made w5 p 23
  have B5 := Lib.hid (w_below B4.out hw)
  clear hb hw PS B4 C4 D4 BK hr
  go_wp2_with fail
  refine (pwake_any _ (TB.out _ B5.out)).mono ?_
  rintro e w7 ⟨rfl, hb⟩
  have B8 := Lib.hid (w_below B5.out hb)
  clear hb B5
  go_wp2_with fail
  go_ret
  exact ⟨rfl, B8.out⟩

end Go.Proofs.YtpkihehacocbhaaDoor
