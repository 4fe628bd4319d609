/- The law on mirrors. -/
import Derived.Test.YtpkihehacocbhaaDoorPLawC
namespace Go.Proofs.YtpkihehacocbhaaDoor
open Go.RowKit

abbrev iO (x y : Int) : Obj := .cells #[.int .i64 x, .int .i64 y] 33

/-- A mirrored pitch. -/
theorem mir_two {p x : Pi3} (h : okP p) (k : okP x) (hr : 0 ≤ 2 * numI x - numI p ∧ 2 * numI x - numI p ≤ 62) :
    ∃ a, mirV p x = (a, 0) ∧ okP a ∧ mirV a x = (p, 0) ∧ numI a = 2 * numI x - numI p := by
  have hk : -1 ≤ -p.2.2 ∧ -p.2.2 ≤ 1 := by have := h.2.2; omega
  refine ⟨((2 * numI x - numI p) % 7, (2 * numI x - numI p) / 7, -p.2.2), ?_, ofV_okP ⟨hr, hk⟩, ?_, num_of⟩
  · rw [mirV_ok h k, of_ok ⟨hr, hk⟩]
  · rw [mirV_ok (ofV_okP ⟨hr, hk⟩) k, num_of, show 2 * numI x - (2 * numI x - numI p) = numI p by omega]
    show ofV (numI p) (- -p.2.2) = (p, 0)
    rw [Int.neg_neg]
    exact of_num h
theorem mir_no {p x : Pi3} (h : okP p) (k : okP x) (hr : ¬ (0 ≤ 2 * numI x - numI p ∧ 2 * numI x - numI p ≤ 62)) : mirV p x = ((0, 0, 0), 2) := by
  rw [mirV_ok h k, of_no (fun y => hr y.1)]

set_option maxRecDepth 100000 in
set_option maxHeartbeats 4000000 in
theorem pmirrors_any (a b c : Int) (w : World) (ha : -9223372036854775808 ≤ a ∧ a ≤ 9223372036854775807) (hb : -9223372036854775808 ≤ b ∧ b ≤ 9223372036854775807) (hc : -9223372036854775808 ≤ c ∧ c ≤ 9223372036854775807) (tab : Tab w) :
    Calls Tryd.prog 8 #[.int .i64 a, .int .i64 b, .int .i64 c] w fun e w' => e = .returned (.bool true) ∧ Below w.heap.size w w' := by
  have TB := Lib.hid (fun W (b : Below w.heap.size w W) => tab.later b)
  clear tab
  have PA := Lib.hid (fun W => pitch_any a W ha.1 ha.2)
  have PB := Lib.hid (fun W => pitch_any b W hb.1 hb.2)
  have PC := Lib.hid (fun W => pitch_any c W hc.1 hc.2)
  have op := madeP_ok a
  have oq := madeP_ok b
  have ox := madeP_ok c
  generalize madeP a = p at *
  generalize madeP b = q at *
  generalize madeP c = x at *
  clear ha hb hc
  have MA := Lib.hid (fun W => wmirror_any p x W)
  have MB := Lib.hid (fun W => wmirror_any q x W)
  unfold OfPost at MA MB
  by_cases hp : 0 ≤ 2 * numI x - numI p ∧ 2 * numI x - numI p ≤ 62
  · obtain ⟨p', e1, op', e2, e3⟩ := mir_two op ox hp
    rw [e1] at MA
    by_cases hq : 0 ≤ 2 * numI x - numI q ∧ 2 * numI x - numI q ≤ 62
    · obtain ⟨q', g1, oq', g2, g3⟩ := mir_two oq ox hq
      rw [g1] at MB
      have MC := Lib.hid (fun W => wmirror_any p' x W)
      unfold OfPost at MC
      rw [e2] at MC
      have BA := Lib.hid (fun W (b : Below w.heap.size w W) => wbetween_any p q W (TB.out W b))
      have BB := Lib.hid (fun W (b : Below w.heap.size w W) => wbetween_any p' q' W (TB.out W b))
      unfold BetPost at BA BB
      rw [betV_ok op oq] at BA
      rw [betV_ok op' oq', e3, g3] at BB
      have n1 := num_bd op
      have n2 := num_bd oq
      have n3 := num_bd ox
      clear op oq ox op' oq' e1 e2 e3 g1 g2 g3 hp hq
      generalize numI p = np at *
      generalize numI q = nq at *
      generalize numI x = nx at *
      generalize heiI q - heiI p = h1 at *
      generalize heiI q' - heiI p' = h2 at *
      obtain ⟨j, hj⟩ : ∃ j, 2 * nx - nq - (2 * nx - np) = j := ⟨_, rfl⟩
      obtain ⟨i, hi⟩ : ∃ i, nq - np = i := ⟨_, rfl⟩
      rw [hj] at BB
      rw [hi] at BA
      have x1 : IntKind.i64.wrap (-j) = i := by rw [IntWalk.i64_in _ (by omega)]; omega
      clear hi hj n1 n2 n3
      go_enter Tryd.func8, Tryd.ntmps8
      go_wp2_with fail
      refine (PA.out _).mono ?_
      rintro e w1 ⟨rfl, hb⟩
      have B1 := Lib.hid hb
      clear hb PA
      go_wp2_with fail
      refine (PB.out _).mono ?_
      rintro e w2 ⟨rfl, hb⟩
      have B2 := Lib.hid (w_below B1.out hb)
      clear hb PB B1
      go_wp2_with fail
      refine (PC.out _).mono ?_
      rintro e w3 ⟨rfl, hb⟩
      have B3 := Lib.hid (w_below B2.out hb)
      clear hb PC B2
      go_wp2_with fail
      have K0 := Lib.hid (boxes3 w3 p q x 23)
      have B4 := Lib.hid (w_alloc (w_alloc (w_alloc B3.out (pO p)) (pO q)) (pO x))
      refine (MA.out _).mono ?_
      rintro e w4 ⟨rfl, hb⟩
      have hw := w_below hb (w_alloc (w_refl w4) (pO p'))
      have K1 := Lib.hid (show _ ∧ _ ∧ _ from ⟨K0.out.1.later hw, K0.out.2.1.later hw, K0.out.2.2.later hw⟩)
      have I1 := Lib.hid (Cell3.made w4 p' 23)
      have B5 := Lib.hid (w_below B4.out hw)
      obtain ⟨_, q0, q1, q2, _, _, _⟩ := K1.out.2.1
      obtain ⟨_, r0, r1, r2, _, _, _⟩ := K1.out.2.2
      clear hb hw K0 B4 MA B3
      go_wp2_with fail
      refine (MB.out _).mono ?_
      rintro e w5 ⟨rfl, hb⟩
      have hw := w_below hb (w_alloc (w_refl w5) (pO q'))
      have K2 := Lib.hid (show _ ∧ _ ∧ _ from ⟨K1.out.1.later hw, K1.out.2.1.later hw, K1.out.2.2.later hw⟩)
      have I2 := Lib.hid (show _ ∧ _ from ⟨I1.out.later hw, Cell3.made w5 q' 23⟩)
      have B6 := Lib.hid (w_below B5.out hw)
      clear q0 q1 q2 r0 r1 r2
      obtain ⟨_, p0, p1, p2, _, _, _⟩ := I2.out.1
      obtain ⟨_, r0, r1, r2, _, _, _⟩ := K2.out.2.2
      clear hb hw K1 B5 MB I1
      go_wp2_with fail
      refine (MC.out _).mono ?_
      rintro e w6 ⟨rfl, hb⟩
      have hw := w_below hb (w_alloc (w_refl w6) (pO p))
      have K3 := Lib.hid (show _ ∧ _ from ⟨K2.out.1.later hw, K2.out.2.1.later hw⟩)
      have I3 := Lib.hid (show _ ∧ _ ∧ _ from ⟨I2.out.1.later hw, I2.out.2.later hw, Cell3.made w6 p 23⟩)
      have B7 := Lib.hid (w_below B6.out hw)
      clear p0 p1 p2 r0 r1 r2
      obtain ⟨_, p0, p1, p2, _, _, _⟩ := K3.out.1
      obtain ⟨_, r0, r1, r2, _, _, _⟩ := K3.out.2
      clear hb hw K2 B6 MC I2
      go_wp2_with fail
      refine (BA.out _ B7.out).mono ?_
      rintro e w7 ⟨rfl, hb⟩
      have hw := w_below hb (w_alloc (w_refl w7) (iO i h1))
      have K4 := Lib.hid (K3.out.1.later hw)
      have I4 := Lib.hid (show _ ∧ _ ∧ _ ∧ _ from ⟨I3.out.1.later hw, I3.out.2.1.later hw, I3.out.2.2.later hw, CellI.made w7 i h1 33⟩)
      have B8 := Lib.hid (w_below B7.out hw)
      clear p0 p1 p2 r0 r1 r2
      obtain ⟨_, p0, p1, p2, _, _, _⟩ := I4.out.1
      obtain ⟨_, r0, r1, r2, _, _, _⟩ := I4.out.2.1
      clear hb hw K3 B7 BA I3
      go_wp2_with fail
      refine (BB.out _ B8.out).mono ?_
      rintro e w8 ⟨rfl, hb⟩
      have hw := w_below hb (w_alloc (w_refl w8) (iO j h2))
      have B9 := Lib.hid (w_below B8.out hw)
      clear p0 p1 p2 r0 r1 r2
      obtain ⟨_, p0, p1, p2, _, _, _⟩ := K4.out.later hw
      obtain ⟨_, q0, q1, q2, _, _, _⟩ := I4.out.2.2.1.later hw
      obtain ⟨_, i0, i1, _, _⟩ := I4.out.2.2.2.later hw
      obtain ⟨_, j0, j1, _, _⟩ := CellI.made w8 j h2 33
      clear hb hw K4 B8 BB I4
      go_wp2_with fail
      refine (pwake_any _ (TB.out _ B9.out)).mono ?_
      rintro e w9 ⟨rfl, hb⟩
      have B10 := Lib.hid (w_below B9.out hb)
      clear hb B9
      go_wp2_with fail
      go_ret
      exact ⟨rfl, B10.out⟩
    · rw [mir_no oq ox hq] at MB
      clear op oq ox op' e1 e2 e3 hp hq
      go_enter Tryd.func8, Tryd.ntmps8
      go_wp2_with fail
      refine (PA.out _).mono ?_
      rintro e w1 ⟨rfl, hb⟩
      have B1 := Lib.hid hb
      clear hb PA
      go_wp2_with fail
      refine (PB.out _).mono ?_
      rintro e w2 ⟨rfl, hb⟩
      have B2 := Lib.hid (w_below B1.out hb)
      clear hb PB B1
      go_wp2_with fail
      refine (PC.out _).mono ?_
      rintro e w3 ⟨rfl, hb⟩
      have B3 := Lib.hid (w_below B2.out hb)
      clear hb PC B2
      go_wp2_with fail
      have K0 := Lib.hid (boxes3 w3 p q x 23)
      have B4 := Lib.hid (w_alloc (w_alloc (w_alloc B3.out (pO p)) (pO q)) (pO x))
      refine (MA.out _).mono ?_
      rintro e w4 ⟨rfl, hb⟩
      have hw := w_below hb (w_alloc (w_refl w4) (pO p'))
      have B5 := Lib.hid (w_below B4.out hw)
      obtain ⟨_, q0, q1, q2, _, _, _⟩ := K0.out.2.1.later hw
      obtain ⟨_, r0, r1, r2, _, _, _⟩ := K0.out.2.2.later hw
      clear hb hw K0 B4 MA B3
      go_wp2_with fail
      refine (MB.out _).mono ?_
      rintro e w5 ⟨rfl, hb⟩
      have hw := w_below hb (w_alloc (w_refl w5) (pO (0, 0, 0)))
      have B6 := Lib.hid (w_below B5.out hw)
      clear q0 q1 q2 r0 r1 r2 hb hw MB B5
      go_wp2_with fail
      refine (pwake_any _ (TB.out _ B6.out)).mono ?_
      rintro e w9 ⟨rfl, hb⟩
      have B10 := Lib.hid (w_below B6.out hb)
      clear hb B6
      go_wp2_with fail
      go_ret
      exact ⟨rfl, B10.out⟩
  · rw [mir_no op ox hp] at MA
    have MB2 := Lib.hid (fun W => show Calls _ _ _ W fun e w' => ∃ r : Pi3 × Int, e = .returned (.tuple #[pv r.1, .int .i64 r.2]) ∧ Below W.heap.size W w' from (MB.out W).mono fun e w' h => ⟨_, h⟩)
    clear op oq ox hp MB
    go_enter Tryd.func8, Tryd.ntmps8
    go_wp2_with fail
    refine (PA.out _).mono ?_
    rintro e w1 ⟨rfl, hb⟩
    have B1 := Lib.hid hb
    clear hb PA
    go_wp2_with fail
    refine (PB.out _).mono ?_
    rintro e w2 ⟨rfl, hb⟩
    have B2 := Lib.hid (w_below B1.out hb)
    clear hb PB B1
    go_wp2_with fail
    refine (PC.out _).mono ?_
    rintro e w3 ⟨rfl, hb⟩
    have B3 := Lib.hid (w_below B2.out hb)
    clear hb PC B2
    go_wp2_with fail
    have K0 := Lib.hid (boxes3 w3 p q x 23)
    have B4 := Lib.hid (w_alloc (w_alloc (w_alloc B3.out (pO p)) (pO q)) (pO x))
    refine (MA.out _).mono ?_
    rintro e w4 ⟨rfl, hb⟩
    have hw := w_below hb (w_alloc (w_refl w4) (pO (0, 0, 0)))
    have B5 := Lib.hid (w_below B4.out hw)
    obtain ⟨_, q0, q1, q2, _, _, _⟩ := K0.out.2.1.later hw
    obtain ⟨_, r0, r1, r2, _, _, _⟩ := K0.out.2.2.later hw
    clear hb hw K0 B4 MA B3
    go_wp2_with fail
    refine (MB2.out _).mono ?_
    rintro e w5 ⟨⟨⟨s1, s2, s3⟩, se⟩, rfl, hb⟩
    have hw := w_below hb (w_alloc (w_refl w5) (pO (s1, s2, s3)))
    have B6 := Lib.hid (w_below B5.out hw)
    clear q0 q1 q2 r0 r1 r2 hb hw MB2 B5
    go_wp2_with fail
    refine (pwake_any _ (TB.out _ B6.out)).mono ?_
    rintro e w9 ⟨rfl, hb⟩
    have B10 := Lib.hid (w_below B6.out hb)
    clear hb B6
    go_wp2_with fail
    go_ret
    exact ⟨rfl, B10.out⟩

end Go.Proofs.YtpkihehacocbhaaDoor
