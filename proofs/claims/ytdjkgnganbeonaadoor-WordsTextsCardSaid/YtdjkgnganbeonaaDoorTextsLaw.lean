/- The law on the text of rows. -/
import Derived.Test.YtdjkgnganbeonaaDoorWake
import Derived.Test.YtdjkgnganbeonaaDoorLarge
import Derived.Test.YtdjkgnganbeonaaDoorOwn
namespace Go.Proofs.YtdjkgnganbeonaaDoor
open Go.RowKit

set_option maxRecDepth 100000 in
set_option maxHeartbeats 4000000 in
theorem textslaw_any (v : Value) (rs : List Rw) (w : World) (hv : RowsV w v rs) (hsz : ∀ r ∈ rs, ∀ x ∈ r.words, x.text.size ≤ maxLen) :
    Calls Tryd.prog 4 #[v] w fun e w' => e = .returned (.bool true) ∧ Below w.heap.size w w' := by
  have HV := Lib.hid hv
  have L := Lib.hid (large_any v rs w hv hsz)
  obtain ⟨p, cap, rfl, f1, f2⟩ := rows_nil hv
  clear hv hsz
  go_enter Tryd.func4, Tryd.ntmps4
  go_wp2_with fail
  refine L.out.mono ?_
  rintro e w1 ⟨b, rfl, hbl, hb1⟩
  cases b with
  | true =>
    have hb := Lib.hid hb1
    clear hb1 L
    go_wp2_with fail
    refine (wake_any _).mono ?_
    rintro e w2 ⟨rfl, hb2⟩
    have hb9 := Lib.hid (w_below hb.out hb2)
    clear hb hb2
    go_wp2_with fail
    go_ret
    exact ⟨rfl, hb9.out⟩
  | false =>
    have hm := Lib.hid (hbl rfl).modest
    have hb := Lib.hid hb1
    have hv1 := Lib.hid (HV.out.later hb1)
    clear hb1 L hbl HV
    go_wp2_with fail
    refine (own_any _ rs _ hv1.out hm.out).mono ?_
    rintro e w2 ⟨v2, rfl, hr2, hb2⟩
    have hv2 := Lib.hid (hv1.out.later hb2)
    have hr := Lib.hid hr2.val
    have hbb := Lib.hid (w_below hb.out hb2)
    clear hr2 hb2 hv1 hb
    go_wp2_with fail
    refine (wtext_any _ rs _ hr.out hm.out).mono ?_
    rintro e w3 ⟨rfl, hb3⟩
    have hv3 := Lib.hid (hv2.out.later hb3)
    have hr3 := Lib.hid (hr.out.later hb3)
    have hbc := Lib.hid (w_below hbb.out hb3)
    have hT := Lib.hid (fun W => rtext_any (.slice p rs.length cap) rs W)
    unfold TextPost at hT
    clear hb3 hv2 hr hbb
    generalize (textG [] rs).1 = t at *
    generalize (textG [] rs).2 = n at *
    go_wp2_with fail
    refine (hT.out _ hv3.out hm.out).mono ?_
    rintro e w4 ⟨rfl, hb4⟩
    have hv4 := Lib.hid (hv3.out.later hb4)
    have hr4 := Lib.hid (hr3.out.later hb4)
    have hbd := Lib.hid (w_below hbc.out hb4)
    clear hb4 hv3 hr3 hbc hT
    go_wp2_with fail
    refine (same_any _ _ _ _ _ _ hr4.out hv4.out (SameR.refl true _)).mono ?_
    rintro e w5 ⟨rfl, hb5⟩
    have hbe := Lib.hid (w_below hbd.out hb5)
    clear hb5 hv4 hr4 hbd
    go_wp2_with fail
    refine (wake_any _).mono ?_
    rintro e w6 ⟨rfl, hb6⟩
    have hb9 := Lib.hid (w_below hbe.out hb6)
    clear hbe hb6
    go_wp2_with fail
    go_ret
    exact ⟨rfl, hb9.out⟩

end Go.Proofs.YtdjkgnganbeonaaDoor
