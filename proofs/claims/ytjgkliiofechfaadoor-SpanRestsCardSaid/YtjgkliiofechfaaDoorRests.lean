/- The statement SpanRests returns true at every input: the walk. -/
import Derived.Test.YtjgkliiofechfaaDoorBack
namespace Go.Proofs.YtjgkliiofechfaaDoor
open Go.RowKit

/-- What a new block holds does not matter to an old cell. -/
theorem cell_swap {w : World} {o o' : Obj} {b i : Nat} {v : Value} (h : (w.alloc o).cell? ⟨b, i, none⟩ = some v) (hb : b < w.heap.size) : (w.alloc o').cell? ⟨b, i, none⟩ = some v := by
  rw [(ba (br w) o').cell (p := ⟨b, i, none⟩) hb, ← (ba (br w) o).cell (p := ⟨b, i, none⟩) hb]; exact h

theorem cmplit (a b c d n e' : Int) (w : World) (h : cmpV a b c d = n) (k : chk2 a b c d = e') :
    Calls Tryd.prog 26 #[tv a b, tv c d] w fun e w' => e = .returned (.tuple #[.int .i64 n, .int .i64 e']) ∧ Below w.heap.size w w' := by
  have := cmp_any a b c d w
  rw [h, k] at this
  exact this

set_option maxRecDepth 100000 in
set_option maxHeartbeats 4000000 in
theorem rests_any (x y : Int) (w : World) (hx : -9223372036854775808 ≤ x) (hx1 : x ≤ 9223372036854775807) (hy : -9223372036854775808 ≤ y) (hy1 : y ≤ 9223372036854775807) :
    Calls Tryd.prog 11 #[.int .i64 x, .int .i64 y] w fun e w' => e = .returned (.bool true) ∧ Below w.heap.size w w' := by
  have K := Lib.hid known_any
  have SX := Lib.hid (fun W => span_any x W hx hx1)
  have SY := Lib.hid (fun W => span_any y W hy hy1)
  clear hx hx1 hy hy1
  go_enter Tryd.func11, Tryd.ntmps11
  go_wp2_with fail
  refine (K.out _).mono ?_
  rintro e w1 ⟨rfl, hb1⟩
  go_wp2_with fail
  refine (SX.out _).mono ?_
  rintro e w2 ⟨hb2, a, b, hs1, rfl⟩
  go_wp2_with fail
  refine (SY.out _).mono ?_
  rintro e w3 ⟨hb3, c, d, hs2, rfl⟩
  have B3 := Lib.hid (bl (bl (bl (br w) hb1) hb2) hb3)
  clear hb1 hb2 hb3
  obtain ⟨q, n, m, s, t, hB⟩ := rests_of hs1 hs2
  have HB := Lib.hid hB
  have q0 := hB.q0
  have q1 := hB.q1
  clear hB hs1 hs2 SX SY K
  have C1 := Lib.hid (fun W => wholelit a b c d q n m 0 W ⟨HB.out.quo, HB.out.rest⟩)
  have TQ := Lib.hid (fun W => tlit q 1 q 1 W (by rw [gcdI_one_right]; simp) ⟨q0, by omega⟩ (by decide))
  have C2 := Lib.hid (fun W => mullit q 1 c d s t 0 W HB.out.mul)
  have C3 := Lib.hid (fun W => addlit s t n m a b 0 W HB.out.add)
  have C4 := Lib.hid (fun W => cmplit n m c d (-1) 0 W HB.out.cmp HB.out.ok)
  clear HB
  go_wp2_with fail
  refine (C1.out _).mono ?_
  rintro e w4 ⟨rfl, hb4⟩
  have X4 := Lib.hid ((((Own2.made w3 a b 23).later (ba (br _) (.cells #[.int .i64 c, .int .i64 d] 23))).later hb4).later (ba (br _) (.cells #[.int .i64 n, .int .i64 m] 23)))
  have Y4 := Lib.hid (((Own2.made (w3.alloc (.cells #[.int .i64 a, .int .i64 b] 23)) c d 23).later hb4).later (ba (br _) (.cells #[.int .i64 n, .int .i64 m] 23)))
  have R4 := Lib.hid (Own2.made w4 n m 23)
  simp only [World.size_alloc] at Y4
  have B4 := Lib.hid (ba (bl (ba (ba B3.out (.cells #[.int .i64 a, .int .i64 b] 23)) (.cells #[.int .i64 c, .int .i64 d] 23)) hb4) (.cells #[.int .i64 n, .int .i64 m] 23))
  clear hb4 B3
  go_wp2_with fail
  generalize w4.alloc (.cells #[.int .i64 n, .int .i64 m] 23) = W at *
  obtain ⟨hin, p0, p1, _, _⟩ := Y4.out
  go_cut [11, 12] (fun s11 s12 wc => ∃ B : Nat, s11 = .pointer (some ⟨B, 0, none⟩) ∧ s12 = .int .i64 0 ∧ Hid (Below W.heap.size W wc) ∧ Hid (Own2 wc B s t))
  case first =>
    go_region_held3 (fun w' => w'.cell? ⟨w3.heap.size + 1, 0, none⟩ = some (.int .i64 c) ∧ w'.cell? ⟨w3.heap.size + 1, 1, none⟩ = some (.int .i64 d) ∧ Below W.heap.size W w')
      (first
        | exact ⟨p0, p1, (br W).drew⟩
        | (go_split_ands
           refine ⟨?_, ?_, ?_⟩
           all_goals first
            | assumption
            | exact cell_keep hbx ‹_›
            | exact cell_keep hby ‹_›
            | exact cell_keep (ba (br _) _) ‹_›
            | exact cell_swap ‹_› (by have h1 := hbx.size; have h2 := hby.size; simp at h1 h2; omega)
            | exact keep_store ‹_› (by have h1 := hbx.size; have h2 := hby.size; simp at h1 h2; omega)
            | exact ba (bl (bl (br W).drew hbx) hby) _
            | exact bl ‹_› hbx
            | exact bl ‹_› hby
            | exact ba ‹_› _
            | exact bs (bs ‹_› (by have h1 := hbx.size; have h2 := hby.size; simp at h1 h2; first | (simp; done) | (simp; omega) | omega) _) (by have h1 := hbx.size; have h2 := hby.size; simp at h1 h2; first | (simp; done) | (simp; omega) | omega) _))
      (first
        | (go_at_call 38; ((with_reducible refine (TQ.out (World.drew (World.alloc _ _))).mono ?_); rintro e wx ⟨rfl, hbx⟩; have own := own_drew hbx; have own1 := own; obtain ⟨_, o0, o1, o2, o3⟩ := own1))
        | (go_at_call 38; ((with_reducible refine (TQ.out _).mono ?_); rintro e wx ⟨rfl, hbx⟩; have own := True.intro))
        | (go_at_call 22; ((with_reducible refine (C2.out (World.alloc _ _)).mono ?_); rintro e wy ⟨rfl, hby⟩; have own1 := (Own2.made wx 0 0 23).later hby; have own2 := Lib.hid own1; obtain ⟨_, o0, o1, o2, o3⟩ := own1))
        | (go_at_call 22; ((with_reducible refine (C2.out _).mono ?_); rintro e wy ⟨rfl, hby⟩; first | (have own1 := Own2.later own hby; have own2 := Lib.hid own1; obtain ⟨_, o0, o1, o2, o3⟩ := own1) | skip)))
    all_goals
      go_split_ands
      go_wp2_with fail
      go_meet
    all_goals first
      | exact ⟨wy.heap.size, rfl, rfl, Lib.hid (by assumption), Lib.hid (Own2.made wy s t 23)⟩
      | exact ⟨wx.heap.size, rfl, rfl, Lib.hid (by assumption), Lib.hid own2.out.set⟩
      | exact ⟨W.heap.size, rfl, rfl, Lib.hid (by assumption), Lib.hid own2.out.set⟩
  case rest =>
    obtain ⟨B, rfl, rfl, hbc, hown⟩ := hcut
    have Bc := Lib.hid (bl B4.out hbc.out)
    have Xc := Lib.hid (X4.out.later hbc.out)
    have Yc := Lib.hid (Y4.out.later hbc.out)
    have Rc := Lib.hid (R4.out.later hbc.out)
    clear hbc B4 X4 Y4 R4 p0 p1 hin TQ C1 C2
    obtain ⟨_, r0, r1, _, _⟩ := Rc.out
    obtain ⟨_, m0, m1, _, _⟩ := hown.out
    obtain ⟨_, y0, y1, _, _⟩ := Yc.out
    go_wp2_with fail
    refine (C3.out _).mono ?_
    rintro e w6 ⟨rfl, hb6⟩
    have B6 := Lib.hid (ba (bl Bc.out hb6) (.cells #[.int .i64 a, .int .i64 b] 23))
    have X6 := Lib.hid ((Xc.out.later hb6).later (ba (br _) (.cells #[.int .i64 a, .int .i64 b] 23)))
    have Y6 := Lib.hid ((Yc.out.later hb6).later (ba (br _) (.cells #[.int .i64 a, .int .i64 b] 23)))
    have R6 := Lib.hid ((Rc.out.later hb6).later (ba (br _) (.cells #[.int .i64 a, .int .i64 b] 23)))
    have M6 := Lib.hid (Own2.made w6 a b 23)
    clear r0 r1 m0 m1 y0 y1 hb6 Bc Xc Yc Rc hown
    obtain ⟨_, r0, r1, _, _⟩ := R6.out
    obtain ⟨_, y0, y1, _, _⟩ := Y6.out
    go_wp2_with fail
    refine (C4.out _).mono ?_
    rintro e w7 ⟨rfl, hb7⟩
    have B7 := Lib.hid (bl B6.out hb7)
    obtain ⟨_, x0, x1, _, _⟩ := X6.out.later hb7
    obtain ⟨_, m0, m1, _, _⟩ := M6.out.later hb7
    clear r0 r1 y0 y1 hb7 B6 X6 Y6 R6 M6
    go_wp2_with fail
    go_ret
    exact ⟨rfl, B7.out⟩

end Go.Proofs.YtjgkliiofechfaaDoor
