/- The statement SpanKnown returns true: the walk. -/
import Derived.Test.YtjgkliiofechfaaDoorAwake
import Derived.Test.YtjgkliiofechfaaDoorParse
namespace Go.Proofs.YtjgkliiofechfaaDoor
open Go.RowKit

theorem zerolit (w : World) : Calls Tryd.prog 39 #[] w fun e w' => e = .returned (tv 0 1) ∧ Below w.heap.size w w' := zero_any w

theorem sublit (a b c d n' d' e' : Int) (w : World) (h : subV a b c d = (n', d', e')) :
    Calls Tryd.prog 20 #[tv a b, tv c d] w fun e w' => e = .returned (tev (n', d', e')) ∧ Below w.heap.size w w' := by
  have := sub_any a b c d w
  rw [h] at this
  exact this
theorem mullit (a b c d n' d' e' : Int) (w : World) (h : mulV a b c d = (n', d', e')) :
    Calls Tryd.prog 22 #[tv a b, tv c d] w fun e w' => e = .returned (tev (n', d', e')) ∧ Below w.heap.size w w' := by
  have := mul_any a b c d w
  rw [h] at this
  exact this
theorem divlit (a b c d n' d' e' : Int) (w : World) (h : divV a b c d = (n', d', e')) :
    Calls Tryd.prog 24 #[tv a b, tv c d] w fun e w' => e = .returned (tev (n', d', e')) ∧ Below w.heap.size w w' := by
  have := div_any a b c d w
  rw [h] at this
  exact this
theorem checklit (n d e' : Int) (w : World) (h : chk n d = e') : Calls Tryd.prog 15 #[tv n d] w fun e w' => e = .returned (.int .i64 e') ∧ Below w.heap.size w w' := by
  have := check_any n d w
  rw [h] at this
  exact this
theorem parselit (l : Array UInt8) (n' d' e' : Int) (w : World) (hs : l.size ≤ 100) (h : parseV l.toList = (n', d', e')) :
    Calls Tryd.prog 36 #[.string ⟨l⟩] w fun e w' => e = .returned (tev (n', d', e')) ∧ Below w.heap.size w w' := by
  have := parse_any ⟨l⟩ w (by unfold maxLen; show l.size ≤ _; omega)
  rw [show (⟨l⟩ : ByteArray).data.toList = l.toList from rfl, h] at this
  exact this

set_option maxHeartbeats 400000 in
theorem fails_lit (l : Array UInt8) (w : World) (hs : l.size ≤ 100) (h : parseV l.toList = (0, 0, 3)) :
    Calls Tryd.prog 40 #[.string ⟨l⟩] w fun e w' => e = .returned (.bool true) ∧ Below w.heap.size w w' := by
  have P := Lib.hid (fun W => parselit l 0 0 3 W hs h)
  clear h hs
  go_enter Tryd.func40, Tryd.ntmps40
  go_wp2_with fail
  refine (P.out _).mono ?_
  rintro e w1 ⟨rfl, hb1⟩
  go_wp2_with fail
  go_ret
  exact ⟨rfl, ba (bl (br w) hb1) _⟩

theorem own_drew {w w2 : World} {t : TypeId} (h : Below (w.alloc (.cells #[.int .i64 0, .int .i64 0] t)).drew.heap.size (w.alloc (.cells #[.int .i64 0, .int .i64 0] t)).drew w2) : Own2 w2 w.heap.size 0 0 :=
  ((Own2.made w 0 0 t).later (br _).drew).later h

theorem keep_store {w : World} {b B i : Nat} {u v x : Value} (h : w.cell? ⟨b, i, none⟩ = some x) (hne : b ≠ B) : ((w.setCell ⟨B, 0, none⟩ u).setCell ⟨B, 1, none⟩ v).cell? ⟨b, i, none⟩ = some x :=
  (World.cell?_of_block (w := w) (a := ⟨b, i, none⟩) ((Below.heap_setCell _ ⟨B, 1, none⟩ v b hne).trans (Below.heap_setCell _ ⟨B, 0, none⟩ u b hne))).trans h

set_option maxRecDepth 100000 in
set_option maxHeartbeats 4000000 in
theorem known_any (w : World) : Calls Tryd.prog 8 #[] w fun e w' => e = .returned (.bool true) ∧ Below w.heap.size w w' := by
  go_enter Tryd.func8, Tryd.ntmps8
  go_wp2_with fail
  refine (mklit 0 7 0 1 0 _ (by decide) (by decide) (by decide)).mono ?_
  rintro e w1 ⟨rfl, hb1⟩
  have B1 := Lib.hid (ba (bl (br w) hb1) (.cells #[.int .i64 0, .int .i64 1] 23))
  have P1 := Lib.hid (Own2.made w1 0 1 23)
  clear hb1
  go_wp2_with fail
  refine (mklit (-1) 2 0 0 2 _ (by decide) (by decide) (by decide)).mono ?_
  rintro e w2 ⟨rfl, hb2⟩
  have B2 := Lib.hid (ba (bl B1.out hb2) (.cells #[.int .i64 0, .int .i64 0] 23))
  have P2 := Lib.hid ((P1.out.later hb2).later (ba (br w2) (.cells #[.int .i64 0, .int .i64 0] 23)))
  clear hb2 B1 P1
  go_wp2_with fail
  refine (mklit 1 0 0 0 5 _ (by decide) (by decide) (by decide)).mono ?_
  rintro e w3 ⟨rfl, hb3⟩
  have B3 := Lib.hid (ba (bl B2.out hb3) (.cells #[.int .i64 0, .int .i64 0] 23))
  have P3 := Lib.hid ((P2.out.later hb3).later (ba (br w3) (.cells #[.int .i64 0, .int .i64 0] 23)))
  clear hb3 B2 P2
  go_wp2_with fail
  refine (mklit 1 2097152 0 0 4 _ (by decide +kernel) (by decide) (by decide)).mono ?_
  rintro e w4 ⟨rfl, hb4⟩
  have B4 := Lib.hid (ba (bl B3.out hb4) (.cells #[.int .i64 0, .int .i64 0] 23))
  have P4 := Lib.hid ((P3.out.later hb4).later (ba (br w4) (.cells #[.int .i64 0, .int .i64 0] 23)))
  clear hb4 B3 P3
  go_wp2_with fail
  refine (tlit 1 3 1 3 _ (by decide) (by decide) (by decide)).mono ?_
  rintro e w5 ⟨rfl, hb5⟩
  have B5 := Lib.hid (bl B4.out hb5)
  have P5 := Lib.hid (P4.out.later hb5)
  clear hb5 B4 P4
  go_wp2_with fail
  refine (tlit 1 2 1 2 _ (by decide) (by decide) (by decide)).mono ?_
  rintro e w6 ⟨rfl, hb6⟩
  have B6 := Lib.hid (bl B5.out hb6)
  have P6 := Lib.hid (P5.out.later hb6)
  clear hb6 B5 P5
  go_wp2_with fail
  refine (sublit 1 3 1 2 0 0 2 _ (by decide)).mono ?_
  rintro e w7 ⟨rfl, hb7⟩
  have B7 := Lib.hid (ba (bl B6.out hb7) (.cells #[.int .i64 0, .int .i64 0] 23))
  have P7 := Lib.hid ((P6.out.later hb7).later (ba (br w7) (.cells #[.int .i64 0, .int .i64 0] 23)))
  clear hb7 B6 P6
  go_wp2_with fail
  refine (tlit 2 3 2 3 _ (by decide) (by decide) (by decide)).mono ?_
  rintro e w8 ⟨rfl, hb8⟩
  have B8 := Lib.hid (bl B7.out hb8)
  have P8 := Lib.hid (P7.out.later hb8)
  clear hb8 B7 P7
  go_wp2_with fail
  refine (tlit 9 4 9 4 _ (by decide) (by decide) (by decide)).mono ?_
  rintro e w9 ⟨rfl, hb9⟩
  have B9 := Lib.hid (bl B8.out hb9)
  have P9 := Lib.hid (P8.out.later hb9)
  clear hb9 B8 P8
  go_wp2_with fail
  refine (mullit 2 3 9 4 3 2 0 _ (by decide)).mono ?_
  rintro e wa ⟨rfl, hba⟩
  have Ba := Lib.hid (ba (bl B9.out hba) (.cells #[.int .i64 3, .int .i64 2] 23))
  have Pa := Lib.hid ((P9.out.later hba).later (ba (br wa) (.cells #[.int .i64 3, .int .i64 2] 23)))
  have Qa := Lib.hid (Own2.made wa 3 2 23)
  clear hba B9 P9
  go_wp2_with fail
  generalize wa.alloc (.cells #[.int .i64 3, .int .i64 2] 23) = W at *
  obtain ⟨hin, p0, p1, _, _⟩ := Pa.out
  have T23 := Lib.hid (fun U => tlit 2 3 2 3 U (by decide) (by decide) (by decide))
  have D := Lib.hid (fun U => divlit 2 3 0 1 0 0 5 U (by decide))
  go_cut [13, 14] (fun s13 s14 wc => ∃ B : Nat, s13 = .pointer (some ⟨B, 0, none⟩) ∧ s14 = .int .i64 5 ∧ Hid (Below W.heap.size W wc))
  case first =>
    go_region_held3 (fun w' => w'.cell? ⟨w1.heap.size, 0, none⟩ = some (.int .i64 0) ∧ w'.cell? ⟨w1.heap.size, 1, none⟩ = some (.int .i64 1) ∧ Below W.heap.size W w')
      (first
        | exact ⟨p0, p1, (br W).drew⟩
        | (go_split_ands
           refine ⟨?_, ?_, ?_⟩
           all_goals first
            | assumption
            | exact cell_keep hbx ‹_›
            | exact cell_keep hby ‹_›
            | exact cell_keep (ba (br _) _) ‹_›
            | exact keep_store ‹_› (by have h1 := hbx.size; have h2 := hby.size; simp at h1 h2; omega)
            | exact bl ‹_› hbx
            | exact bl ‹_› hby
            | exact ba ‹_› _
            | exact bs (bs ‹_› (by have h1 := hbx.size; have h2 := hby.size; simp at h1 h2; first | (simp; done) | (simp; omega) | omega) _) (by have h1 := hbx.size; have h2 := hby.size; simp at h1 h2; first | (simp; done) | (simp; omega) | omega) _))
      (first
        | (go_at_call 38; ((with_reducible refine (T23.out (World.drew (World.alloc _ _))).mono ?_); rintro e wx ⟨rfl, hbx⟩; have own := own_drew hbx; have own1 := own; obtain ⟨_, o0, o1, o2, o3⟩ := own1))
        | (go_at_call 38; ((with_reducible refine (T23.out _).mono ?_); rintro e wx ⟨rfl, hbx⟩; have own := True.intro))
        | (go_at_call 24; ((with_reducible refine (D.out (World.alloc _ _)).mono ?_); rintro e wy ⟨rfl, hby⟩; have own1 := (Own2.made wx 0 0 23).later hby; obtain ⟨_, o0, o1, o2, o3⟩ := own1))
        | (go_at_call 24; ((with_reducible refine (D.out _).mono ?_); rintro e wy ⟨rfl, hby⟩; first | (have own1 := Own2.later own hby; obtain ⟨_, o0, o1, o2, o3⟩ := own1) | skip)))
    all_goals
      go_split_ands
      go_wp2_with fail
      go_meet
    all_goals exact ⟨_, rfl, rfl, Lib.hid (by assumption)⟩
  case rest =>
    obtain ⟨B, rfl, rfl, hbc⟩ := hcut
    have Bc := Lib.hid (bl Ba.out hbc.out)
    have Pc := Lib.hid (Pa.out.later hbc.out)
    have Qc := Lib.hid (Qa.out.later hbc.out)
    clear hbc Ba Pa Qa p0 p1 hin T23 D
    go_wp2_with fail
    refine (tlit 1 1 1 1 _ (by decide) (by decide) (by decide)).mono ?_
    rintro e wd ⟨rfl, hbd⟩
    have Bd := Lib.hid (bl Bc.out hbd)
    have Pd := Lib.hid (Pc.out.later hbd)
    have Qd := Lib.hid (Qc.out.later hbd)
    clear hbd Bc Pc Qc
    go_wp2_with fail
    refine (addlit 1099511627776 1 1 1 0 0 4 _ (by decide +kernel)).mono ?_
    rintro e we ⟨rfl, hbe⟩
    have Be := Lib.hid (ba (bl Bd.out hbe) (.cells #[.int .i64 0, .int .i64 0] 23))
    have Pe := Lib.hid ((Pd.out.later hbe).later (ba (br we) (.cells #[.int .i64 0, .int .i64 0] 23)))
    have Qe := Lib.hid ((Qd.out.later hbe).later (ba (br we) (.cells #[.int .i64 0, .int .i64 0] 23)))
    clear hbe Bd Pd Qd
    go_wp2_with fail
    refine (parselit #[52] 4 1 0 _ (by decide) (by decide +kernel)).mono ?_
    rintro e wf ⟨rfl, hbf⟩
    have Bf := Lib.hid (ba (bl Be.out hbf) (.cells #[.int .i64 4, .int .i64 1] 23))
    have Pf := Lib.hid ((Pe.out.later hbf).later (ba (br wf) (.cells #[.int .i64 4, .int .i64 1] 23)))
    have Qf := Lib.hid ((Qe.out.later hbf).later (ba (br wf) (.cells #[.int .i64 4, .int .i64 1] 23)))
    have Rf := Lib.hid (Own2.made wf 4 1 23)
    clear hbf Be Pe Qe
    go_wp2_with fail
    generalize wf.alloc (.cells #[.int .i64 4, .int .i64 1] 23) = V at *
    obtain ⟨_, p0, p1, _, _⟩ := Pf.out
    obtain ⟨_, q0, q1, _, _⟩ := Qf.out
    obtain ⟨_, r0, r1, _, _⟩ := Rf.out
    have Z := Lib.hid zerolit
    have T32 := Lib.hid (fun U => tlit 3 2 3 2 U (by decide) (by decide) (by decide))
    go_region_held3 (fun w' => w'.cell? ⟨w1.heap.size, 0, none⟩ = some (.int .i64 0) ∧ w'.cell? ⟨w1.heap.size, 1, none⟩ = some (.int .i64 1) ∧ w'.cell? ⟨wa.heap.size, 0, none⟩ = some (.int .i64 3) ∧ w'.cell? ⟨wa.heap.size, 1, none⟩ = some (.int .i64 2) ∧
        w'.cell? ⟨wf.heap.size, 0, none⟩ = some (.int .i64 4) ∧ w'.cell? ⟨wf.heap.size, 1, none⟩ = some (.int .i64 1) ∧ Below w.heap.size w w')
      (first
        | exact ⟨p0, p1, q0, q1, r0, r1, Bf.out.drew⟩
        | (go_split_ands
           exact ⟨cell_keep hbx ‹_›, cell_keep hbx ‹_›, cell_keep hbx ‹_›, cell_keep hbx ‹_›, cell_keep hbx ‹_›, cell_keep hbx ‹_›, bl ‹_› hbx⟩))
      (first
        | (go_at_call 39; ((with_reducible refine (Z.out _).mono ?_); rintro e wx ⟨rfl, hbx⟩))
        | (go_at_call 38; ((with_reducible refine (T32.out _).mono ?_); rintro e wx ⟨rfl, hbx⟩)))
    go_split_ands
    have Bx := Lib.hid (show Below w.heap.size w wx by assumption)
    have r2 : wx.cell? ⟨wf.heap.size, 0, none⟩ = some (.int .i64 4) := by assumption
    have r3 : wx.cell? ⟨wf.heap.size, 1, none⟩ = some (.int .i64 1) := by assumption
    clear p0 p1 q0 q1 r0 r1 Z T32 Bf Pf Qf Rf
    have A := Lib.hid awake_any
    have T41 := Lib.hid (fun U => tlit 4 1 4 1 U (by decide) (by decide) (by decide))
    have F1 := Lib.hid (fun U => fails_lit #[54, 47, 52] U (by decide) (by decide +kernel))
    have F2 := Lib.hid (fun U => fails_lit #[52, 47, 49] U (by decide) (by decide +kernel))
    have F3 := Lib.hid (fun U => fails_lit #[48, 52] U (by decide) (by decide +kernel))
    have C1 := Lib.hid (fun U => checklit 2 4 3 U (by decide +kernel))
    have C2 := Lib.hid (fun U => checklit 0 2 3 U (by decide +kernel))
    have C3 := Lib.hid (fun U => checklit 0 0 2 U (by decide +kernel))
    go_wp2_with fail
    go_region_held3 (fun w' => w'.cell? ⟨wf.heap.size, 0, none⟩ = some (.int .i64 4) ∧ w'.cell? ⟨wf.heap.size, 1, none⟩ = some (.int .i64 1) ∧ Below w.heap.size w w')
      (first
        | exact ⟨r2, r3, Bx.out.drew⟩
        | (go_split_ands
           exact ⟨cell_keep hby ‹_›, cell_keep hby ‹_›, bl ‹_› hby⟩))
      (first
        | (go_at_call 17; ((with_reducible refine (A.out _).mono ?_); rintro e wy ⟨rfl, hby⟩))
        | (go_at_call 38; ((with_reducible refine (T41.out _).mono ?_); rintro e wy ⟨rfl, hby⟩))
        | (go_at_call 40; ((first | (with_reducible refine (F1.out _).mono ?_) | (with_reducible refine (F2.out _).mono ?_) | (with_reducible refine (F3.out _).mono ?_)); rintro e wy ⟨rfl, hby⟩))
        | (go_at_call 15; ((first | (with_reducible refine (C1.out _).mono ?_) | (with_reducible refine (C2.out _).mono ?_) | (with_reducible refine (C3.out _).mono ?_)); rintro e wy ⟨rfl, hby⟩)))
    go_split_ands
    have hend : Below w.heap.size w wy := by assumption
    go_wp2_with fail
    go_ret
    exact ⟨rfl, hend⟩

end Go.Proofs.YtjgkliiofechfaaDoor
