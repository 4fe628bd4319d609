/- The laws on intervals, mirrors and moves. -/
import Derived.Test.YtpkihehacocbhaaDoorPWake
namespace Go.Proofs.YtpkihehacocbhaaDoor
open Go.RowKit

theorem madeP_ok (z : Int) : okP (madeP z) := made_ok z

set_option maxRecDepth 100000 in
set_option maxHeartbeats 4000000 in
theorem adds_any (a b c : Int) (w : World) (ha : -9223372036854775808 ≤ a ∧ a ≤ 9223372036854775807) (hb : -9223372036854775808 ≤ b ∧ b ≤ 9223372036854775807) (hc : -9223372036854775808 ≤ c ∧ c ≤ 9223372036854775807) (tab : Tab w) :
    Calls Tryd.prog 9 #[.int .i64 a, .int .i64 b, .int .i64 c] w fun e w' => e = .returned (.bool true) ∧ Below w.heap.size w w' := by
  have TB := Lib.hid (fun W (b : Below w.heap.size w W) => tab.later b)
  clear tab
  have PA := Lib.hid (fun W => pitch_any a W ha.1 ha.2)
  have PB := Lib.hid (fun W => pitch_any b W hb.1 hb.2)
  have PC := Lib.hid (fun W => pitch_any c W hc.1 hc.2)
  have oa := madeP_ok a
  have ob := madeP_ok b
  have oc := madeP_ok c
  generalize madeP a = p at *
  generalize madeP b = q at *
  generalize madeP c = r at *
  clear ha hb hc
  have BA := Lib.hid (fun W (b : Below w.heap.size w W) => wbetween_any p q W (TB.out W b))
  have BB := Lib.hid (fun W (b : Below w.heap.size w W) => wbetween_any q r W (TB.out W b))
  have BC := Lib.hid (fun W (b : Below w.heap.size w W) => wbetween_any p r W (TB.out W b))
  unfold BetPost at BA BB BC
  rw [betV_ok oa ob] at BA
  rw [betV_ok ob oc] at BB
  rw [betV_ok oa oc] at BC
  have n1 := num_bd oa
  have n2 := num_bd ob
  have n3 := num_bd oc
  have h1 := hei_bd oa
  have h2 := hei_bd ob
  have h3 := hei_bd oc
  clear oa ob oc
  generalize numI p = np at *
  generalize numI q = nq at *
  generalize numI r = nr at *
  generalize heiI p = hp at *
  generalize heiI q = hq at *
  generalize heiI r = hr at *
  have x1 : IntKind.i64.wrap (nq - np + (nr - nq)) = nr - np := by rw [IntWalk.i64_in _ (by omega)]; omega
  have x2 : IntKind.i64.wrap (hq - hp + (hr - hq)) = hr - hp := by rw [IntWalk.i64_in _ (by omega)]; omega
  go_enter Tryd.func9, Tryd.ntmps9
  go_wp2_with fail
  refine (PA.out _).mono ?_
  rintro e w1 ⟨rfl, hb⟩
  have B1 := Lib.hid hb
  clear hb PA
  go_wp2_with fail
  refine (PB.out _).mono ?_
  rintro e w2 ⟨rfl, hb⟩
  have B2 := Lib.hid (w_below B1.out hb)
  clear hb PB B1
  go_wp2_with fail
  refine (PC.out _).mono ?_
  rintro e w3 ⟨rfl, hb⟩
  have B3 := Lib.hid (w_below B2.out hb)
  clear hb PC B2
  go_wp2_with fail
  have K0 := Lib.hid (boxes3 w3 p q r 23)
  have B4 := Lib.hid (w_alloc (w_alloc (w_alloc B3.out (.cells #[.int .i64 p.1, .int .i64 p.2.1, .int .i64 p.2.2] 23)) (.cells #[.int .i64 q.1, .int .i64 q.2.1, .int .i64 q.2.2] 23)) (.cells #[.int .i64 r.1, .int .i64 r.2.1, .int .i64 r.2.2] 23))
  refine (BA.out _ B4.out).mono ?_
  rintro e w4 ⟨rfl, hb⟩
  have hw := w_below hb (w_alloc (w_refl w4) (.cells #[.int .i64 (nq - np), .int .i64 (hq - hp)] 33))
  have K1 := Lib.hid (show _ ∧ _ ∧ _ from ⟨K0.out.1.later hw, K0.out.2.1.later hw, K0.out.2.2.later hw⟩)
  have I1 := Lib.hid (CellI.made w4 (nq - np) (hq - hp) 33)
  have B5 := Lib.hid (w_below B4.out hw)
  obtain ⟨_, q0, q1, q2, _, _, _⟩ := K1.out.2.1
  obtain ⟨_, r0, r1, r2, _, _, _⟩ := K1.out.2.2
  clear hb hw K0 B4 BA B3
  go_wp2_with fail
  refine (BB.out _ B5.out).mono ?_
  rintro e w5 ⟨rfl, hb⟩
  have hw := w_below hb (w_alloc (w_refl w5) (.cells #[.int .i64 (nr - nq), .int .i64 (hr - hq)] 33))
  have K2 := Lib.hid (show _ ∧ _ ∧ _ from ⟨K1.out.1.later hw, K1.out.2.1.later hw, K1.out.2.2.later hw⟩)
  have I2 := Lib.hid (show _ ∧ _ from ⟨I1.out.later hw, CellI.made w5 (nr - nq) (hr - hq) 33⟩)
  have B6 := Lib.hid (w_below B5.out hw)
  clear q0 q1 q2 r0 r1 r2
  obtain ⟨_, p0, p1, p2, _, _, _⟩ := K2.out.1
  obtain ⟨_, r0, r1, r2, _, _, _⟩ := K2.out.2.2
  clear hb hw K1 B5 BB I1
  go_wp2_with fail
  refine (BC.out _ B6.out).mono ?_
  rintro e w6 ⟨rfl, hb⟩
  have hw := w_below hb (w_alloc (w_refl w6) (.cells #[.int .i64 (nr - np), .int .i64 (hr - hp)] 33))
  have B7 := Lib.hid (w_below B6.out hw)
  obtain ⟨_, i0, i1, _, _⟩ := I2.out.1.later hw
  obtain ⟨_, j0, j1, _, _⟩ := I2.out.2.later hw
  obtain ⟨_, k0, k1, _, _⟩ := CellI.made w6 (nr - np) (hr - hp) 33
  clear hb hw K2 B6 BC I2 p0 p1 p2 r0 r1 r2
  go_wp2_with fail
  refine (pwake_any _ (TB.out _ B7.out)).mono ?_
  rintro e w7 ⟨rfl, hb⟩
  have B8 := Lib.hid (w_below B7.out hb)
  clear hb B7
  go_wp2_with fail
  go_ret
  exact ⟨rfl, B8.out⟩

end Go.Proofs.YtpkihehacocbhaaDoor
