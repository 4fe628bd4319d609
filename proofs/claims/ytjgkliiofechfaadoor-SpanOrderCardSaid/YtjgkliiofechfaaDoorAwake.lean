/- Some of the chapter's examples, as the statements' own function awake checks them. -/
import Derived.Test.YtjgkliiofechfaaDoorWhole
import Derived.Test.YtjgkliiofechfaaDoorMul
import Derived.Deep.RegionHeld3
namespace Go.Proofs.YtjgkliiofechfaaDoor
open Go.RowKit

/-- What is read stays as it is behind a call that makes memory. -/
theorem cell_keep {w w1 : World} {a : Addr} {v : Value} (hb : Below w.heap.size w w1) (h : w.cell? a = some v) : w1.cell? a = some v := (hb.cell (World.block_lt_of_cell? w _ h)).trans h

theorem tlit (n d n' d' : Int) (w : World) (h : n / gcdI n d = n' ∧ d / gcdI n d = d') (hn : 0 ≤ n ∧ n ≤ 1099511627776) (hd : 1 ≤ d ∧ d ≤ 1099511627776) :
    Calls Tryd.prog 38 #[.int .i64 n, .int .i64 d] w fun e w' => e = .returned (tv n' d') ∧ Below w.heap.size w w' := by
  have := t_any n d w hn.1 hn.2 hd.1 hd.2
  rw [h.1, h.2] at this
  exact this

theorem mklit (n d n' d' e' : Int) (w : World) (h : makeV n d = (n', d', e')) (hn : n ≤ 1099511627776) (hd : d ≤ 1099511627776) :
    Calls Tryd.prog 13 #[.int .i64 n, .int .i64 d] w fun e w' => e = .returned (tev (n', d', e')) ∧ Below w.heap.size w w' := by
  have := make_any n d w (by omega) (by omega)
  rw [h] at this
  exact this

theorem addlit (a b c d n' d' e' : Int) (w : World) (h : addV a b c d = (n', d', e')) :
    Calls Tryd.prog 18 #[tv a b, tv c d] w fun e w' => e = .returned (tev (n', d', e')) ∧ Below w.heap.size w w' := by
  have := add_any a b c d w
  rw [h] at this
  exact this

theorem wholelit (a b c d q n' d' e' : Int) (w : World) (h : wholeQ a b c d = q ∧ wholeR a b c d = (n', d', e')) :
    Calls Tryd.prog 32 #[tv a b, tv c d] w fun e w' => e = .returned (wev q (n', d', e')) ∧ Below w.heap.size w w' := by
  have := whole_any a b c d w
  rw [h.1, h.2] at this
  exact this

theorem sumlit (b : Nat) (l : List (Int × Int)) (w : World) (n' d' e' : Int) (ht : TimesAt w b 0 l) (hl : l.length ≤ 100) (h : sumV l = (n', d', e')) :
    Calls Tryd.prog 29 #[.slice (some ⟨b, 0, none⟩) l.length l.length] w fun e w' => e = .returned (tev (n', d', e')) ∧ Below w.heap.size w w' := by
  have := sum_any b 0 l.length l w ht (Nat.le_refl _) (by omega)
  rw [h] at this
  exact this

theorem itoa3 (w : World) : Calls Tryd.prog 54 #[.int .i64 3] w fun e w' => e = .returned (.string ⟨#[51]⟩) ∧ w = w' := by
  have h := Tryd.strconv_Itoa_small 3 (by omega) w
  rw [show Lib.decDigits 3 = [51] by decide +kernel] at h
  exact h.mono fun e w' ⟨he, hw⟩ => ⟨he, hw.symm⟩
theorem itoa2 (w : World) : Calls Tryd.prog 54 #[.int .i64 2] w fun e w' => e = .returned (.string ⟨#[50]⟩) ∧ w = w' := by
  have h := Tryd.strconv_Itoa_small 2 (by omega) w
  rw [show Lib.decDigits 2 = [50] by decide +kernel] at h
  exact h.mono fun e w' ⟨he, hw⟩ => ⟨he, hw.symm⟩
theorem check32 (w : World) : Calls Tryd.prog 15 #[tv 3 2] w fun e w' => e = .returned (.int .i64 0) ∧ Below w.heap.size w w' := by
  have h := check_any 3 2 w
  rw [show chk 3 2 = 0 by decide] at h
  exact h

set_option maxHeartbeats 400000 in
theorem text32 (w : World) : Calls Tryd.prog 34 #[tv 3 2] w fun e w' => e = .returned (.tuple #[.string ⟨#[51, 47, 50]⟩, .int .i64 0]) ∧ Below w.heap.size w w' := by
  go_enter Tryd.func34, Tryd.ntmps34
  go_wp2_with fail
  refine (check32 _).mono ?_
  rintro e w1 ⟨rfl, hb1⟩
  obtain ⟨hc1, hf1⟩ := bcell hb1
  go_wp2_with fail
  refine (itoa3 _).mono ?_
  rintro e w2 ⟨rfl, rfl⟩
  go_wp2_with fail
  refine (itoa2 _).mono ?_
  rintro e w2 ⟨rfl, rfl⟩
  go_wp2_with fail
  go_ret2
  exact ⟨rfl, bl (ba (br _) _) hb1⟩

set_option maxHeartbeats 2000000 in
theorem awake_any (w : World) : Calls Tryd.prog 17 #[] w fun e w' => e = .returned (.bool true) ∧ Below w.heap.size w w' := by
  go_enter Tryd.func17, Tryd.ntmps17
  go_wp2_with fail
  refine (mklit 6 4 3 2 0 _ (by decide) (by decide) (by decide)).mono ?_
  rintro e w1 ⟨rfl, hb1⟩
  have B1 := Lib.hid (ba (bl (br w) hb1) (.cells #[.int .i64 3, .int .i64 2] 23))
  have P1 := Lib.hid (Own2.made w1 3 2 23)
  clear hb1
  go_wp2_with fail
  refine (tlit 1 2 1 2 _ (by decide) (by decide) (by decide)).mono ?_
  rintro e w2 ⟨rfl, hb2⟩
  have B2 := Lib.hid (bl B1.out hb2)
  have P2 := Lib.hid (P1.out.later hb2)
  clear hb2 B1 P1
  go_wp2_with fail
  refine (tlit 1 3 1 3 _ (by decide) (by decide) (by decide)).mono ?_
  rintro e w3 ⟨rfl, hb3⟩
  have B3 := Lib.hid (bl B2.out hb3)
  have P3 := Lib.hid (P2.out.later hb3)
  clear hb3 B2 P2
  go_wp2_with fail
  refine (addlit 1 2 1 3 5 6 0 _ (by decide)).mono ?_
  rintro e w4 ⟨rfl, hb4⟩
  have B4 := Lib.hid (ba (bl B3.out hb4) (.cells #[.int .i64 5, .int .i64 6] 23))
  have P4 := Lib.hid ((P3.out.later hb4).later (ba (br w4) (.cells #[.int .i64 5, .int .i64 6] 23)))
  have Q4 := Lib.hid (Own2.made w4 5 6 23)
  clear hb4 B3 P3
  go_wp2_with fail
  refine (tlit 7 2 7 2 _ (by decide) (by decide) (by decide)).mono ?_
  rintro e w5 ⟨rfl, hb5⟩
  have B5 := Lib.hid (bl B4.out hb5)
  have P5 := Lib.hid (P4.out.later hb5)
  have Q5 := Lib.hid (Q4.out.later hb5)
  clear hb5 B4 P4 Q4
  go_wp2_with fail
  refine (tlit 1 1 1 1 _ (by decide) (by decide) (by decide)).mono ?_
  rintro e w6 ⟨rfl, hb6⟩
  have B6 := Lib.hid (bl B5.out hb6)
  have P6 := Lib.hid (P5.out.later hb6)
  have Q6 := Lib.hid (Q5.out.later hb6)
  clear hb6 B5 P5 Q5
  go_wp2_with fail
  refine (wholelit 7 2 1 1 3 1 2 0 _ (by decide)).mono ?_
  rintro e w7 ⟨rfl, hb7⟩
  have B7 := Lib.hid (ba (bl B6.out hb7) (.cells #[.int .i64 1, .int .i64 2] 23))
  have P7 := Lib.hid ((P6.out.later hb7).later (ba (br w7) (.cells #[.int .i64 1, .int .i64 2] 23)))
  have Q7 := Lib.hid ((Q6.out.later hb7).later (ba (br w7) (.cells #[.int .i64 1, .int .i64 2] 23)))
  have R7 := Lib.hid (Own2.made w7 1 2 23)
  clear hb7 B6 P6 Q6
  go_wp2_with fail
  refine (tlit 3 2 3 2 _ (by decide) (by decide) (by decide)).mono ?_
  rintro e w8 ⟨rfl, hb8⟩
  have B8 := Lib.hid (bl B7.out hb8)
  have P8 := Lib.hid (P7.out.later hb8)
  have Q8 := Lib.hid (Q7.out.later hb8)
  have R8 := Lib.hid (R7.out.later hb8)
  clear hb8 B7 P7 Q7 R7
  go_wp2_with fail
  refine (text32 _).mono ?_
  rintro e w9 ⟨rfl, hb9⟩
  have B9 := Lib.hid (bl B8.out hb9)
  have P9 := Lib.hid (P8.out.later hb9)
  have Q9 := Lib.hid (Q8.out.later hb9)
  have R9 := Lib.hid (R8.out.later hb9)
  clear hb9 B8 P8 Q8 R8
  go_wp2_with fail
  refine (tlit 1 2 1 2 _ (by decide) (by decide) (by decide)).mono ?_
  rintro e wa ⟨rfl, hba⟩
  have Ba := Lib.hid (bl B9.out hba)
  have Pa := Lib.hid (P9.out.later hba)
  have Qa := Lib.hid (Q9.out.later hba)
  have Ra := Lib.hid (R9.out.later hba)
  clear hba B9 P9 Q9 R9
  go_wp2_with fail
  refine (tlit 3 2 3 2 _ (by decide) (by decide) (by decide)).mono ?_
  rintro e wb ⟨rfl, hbb⟩
  have Bb := Lib.hid (ba (bl Ba.out hbb) (.cells #[.int .i64 1, .int .i64 2, .int .i64 3, .int .i64 2] 23))
  have Pb := Lib.hid ((Pa.out.later hbb).later (ba (br wb) (.cells #[.int .i64 1, .int .i64 2, .int .i64 3, .int .i64 2] 23)))
  have Qb := Lib.hid ((Qa.out.later hbb).later (ba (br wb) (.cells #[.int .i64 1, .int .i64 2, .int .i64 3, .int .i64 2] 23)))
  have Rb := Lib.hid ((Ra.out.later hbb).later (ba (br wb) (.cells #[.int .i64 1, .int .i64 2, .int .i64 3, .int .i64 2] 23)))
  clear hbb Ba Pa Qa Ra
  go_wp2_with fail
  refine (sumlit _ [(1, 2), (3, 2)] _ 2 1 0 (timesAt_two wb 1 2 3 2 23) (by decide) (by decide)).mono ?_
  rintro e wc ⟨rfl, hbc⟩
  have Bc := Lib.hid (ba (bl Bb.out hbc) (.cells #[.int .i64 2, .int .i64 1] 23))
  have Pc := Lib.hid ((Pb.out.later hbc).later (ba (br wc) (.cells #[.int .i64 2, .int .i64 1] 23)))
  have Qc := Lib.hid ((Qb.out.later hbc).later (ba (br wc) (.cells #[.int .i64 2, .int .i64 1] 23)))
  have Rc := Lib.hid ((Rb.out.later hbc).later (ba (br wc) (.cells #[.int .i64 2, .int .i64 1] 23)))
  have Tc := Lib.hid (Own2.made wc 2 1 23)
  clear hbc Bb Pb Qb Rb
  go_wp2_with fail
  generalize wc.alloc (.cells #[.int .i64 2, .int .i64 1] 23) = W at *
  obtain ⟨_, p0, p1, _, _⟩ := Pc.out
  obtain ⟨_, q0, q1, _, _⟩ := Qc.out
  obtain ⟨_, r0, r1, _, _⟩ := Rc.out
  obtain ⟨_, t0, t1, _, _⟩ := Tc.out
  have T32 := Lib.hid (fun U => tlit 3 2 3 2 U (by decide) (by decide) (by decide))
  have T56 := Lib.hid (fun U => tlit 5 6 5 6 U (by decide) (by decide) (by decide))
  have T12 := Lib.hid (fun U => tlit 1 2 1 2 U (by decide) (by decide) (by decide))
  have T21 := Lib.hid (fun U => tlit 2 1 2 1 U (by decide) (by decide) (by decide))
  go_region_held3 (fun w' => w'.cell? ⟨w1.heap.size, 0, none⟩ = some (.int .i64 3) ∧ w'.cell? ⟨w1.heap.size, 1, none⟩ = some (.int .i64 2) ∧
      w'.cell? ⟨w4.heap.size, 0, none⟩ = some (.int .i64 5) ∧ w'.cell? ⟨w4.heap.size, 1, none⟩ = some (.int .i64 6) ∧
      w'.cell? ⟨w7.heap.size, 0, none⟩ = some (.int .i64 1) ∧ w'.cell? ⟨w7.heap.size, 1, none⟩ = some (.int .i64 2) ∧
      w'.cell? ⟨wc.heap.size, 0, none⟩ = some (.int .i64 2) ∧ w'.cell? ⟨wc.heap.size, 1, none⟩ = some (.int .i64 1) ∧ Below w.heap.size w w')
    (first
      | exact ⟨p0, p1, q0, q1, r0, r1, t0, t1, Bc.out.drew⟩
      | (go_split_ands
         exact ⟨cell_keep hbx ‹_›, cell_keep hbx ‹_›, cell_keep hbx ‹_›, cell_keep hbx ‹_›, cell_keep hbx ‹_›, cell_keep hbx ‹_›, cell_keep hbx ‹_›, cell_keep hbx ‹_›, bl ‹_› hbx⟩))
    (first
      | (go_at_call 38; (first | (with_reducible refine (T32.out _).mono ?_) | (with_reducible refine (T56.out _).mono ?_) | (with_reducible refine (T12.out _).mono ?_) | (with_reducible refine (T21.out _).mono ?_)); rintro e wx ⟨rfl, hbx⟩))
  have hend : Below w.heap.size w wx := by
    go_split_ands
    assumption
  go_wp2_with fail
  go_ret
  exact ⟨rfl, hend⟩

end Go.Proofs.YtjgkliiofechfaaDoor
