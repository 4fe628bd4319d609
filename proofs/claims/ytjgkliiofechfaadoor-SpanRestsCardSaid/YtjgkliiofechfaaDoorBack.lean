/- The statement SpanBack returns true at every input: the walk. -/
import Derived.Test.YtjgkliiofechfaaDoorKnown
import Derived.Test.YtjgkliiofechfaaDoorSums
import Derived.Test.YtjgkliiofechfaaDoorMathC
namespace Go.Proofs.YtjgkliiofechfaaDoor
open Go.RowKit

/-- Two times in their boxes, three results in theirs. -/
structure Five (w W : World) (px py ps pt pu : Nat) (a b c d : Int) (r s u : Int × Int) : Prop where
  X : Own2 W px a b
  Y : Own2 W py c d
  S : Own2 W ps r.1 r.2
  T : Own2 W pt s.1 s.2
  U : Own2 W pu u.1 u.2
  xs : px ≠ ps
  xt : px ≠ pt
  xu : px ≠ pu
  ys : py ≠ ps
  yt : py ≠ pt
  yu : py ≠ pu
  st : ps ≠ pt
  su : ps ≠ pu
  tu : pt ≠ pu
  ws : w.heap.size ≤ ps
  wt : w.heap.size ≤ pt
  wu : w.heap.size ≤ pu
  bel : Below w.heap.size w W

theorem Five.call {w W W1 : World} {px py ps pt pu : Nat} {a b c d : Int} {r s u : Int × Int} (h : Five w W px py ps pt pu a b c d r s u) (hb : Below W.heap.size W W1) : Five w W1 px py ps pt pu a b c d r s u :=
  ⟨h.X.later hb, h.Y.later hb, h.S.later hb, h.T.later hb, h.U.later hb, h.xs, h.xt, h.xu, h.ys, h.yt, h.yu, h.st, h.su, h.tu, h.ws, h.wt, h.wu, bl h.bel hb⟩
theorem Five.setS {w W : World} {px py ps pt pu : Nat} {a b c d n m : Int} {r s u : Int × Int} (h : Five w W px py ps pt pu a b c d r s u) :
    Five w ((W.setCell ⟨ps, 0, none⟩ (.int .i64 n)).setCell ⟨ps, 1, none⟩ (.int .i64 m)) px py ps pt pu a b c d (n, m) s u :=
  ⟨h.X.other h.xs, h.Y.other h.ys, h.S.set, h.T.other h.st.symm, h.U.other h.su.symm, h.xs, h.xt, h.xu, h.ys, h.yt, h.yu, h.st, h.su, h.tu, h.ws, h.wt, h.wu, bs (bs h.bel h.ws _) h.ws _⟩
theorem Five.setT {w W : World} {px py ps pt pu : Nat} {a b c d n m : Int} {r s u : Int × Int} (h : Five w W px py ps pt pu a b c d r s u) :
    Five w ((W.setCell ⟨pt, 0, none⟩ (.int .i64 n)).setCell ⟨pt, 1, none⟩ (.int .i64 m)) px py ps pt pu a b c d r (n, m) u :=
  ⟨h.X.other h.xt, h.Y.other h.yt, h.S.other h.st, h.T.set, h.U.other h.tu.symm, h.xs, h.xt, h.xu, h.ys, h.yt, h.yu, h.st, h.su, h.tu, h.ws, h.wt, h.wu, bs (bs h.bel h.wt _) h.wt _⟩
theorem Five.setU {w W : World} {px py ps pt pu : Nat} {a b c d n m : Int} {r s u : Int × Int} (h : Five w W px py ps pt pu a b c d r s u) :
    Five w ((W.setCell ⟨pu, 0, none⟩ (.int .i64 n)).setCell ⟨pu, 1, none⟩ (.int .i64 m)) px py ps pt pu a b c d r s (n, m) :=
  ⟨h.X.other h.xu, h.Y.other h.yu, h.S.other h.su, h.T.other h.tu, h.U.set, h.xs, h.xt, h.xu, h.ys, h.yt, h.yu, h.st, h.su, h.tu, h.ws, h.wt, h.wu, bs (bs h.bel h.wu _) h.wu _⟩

set_option maxRecDepth 100000 in
set_option maxHeartbeats 4000000 in
theorem back_any (x y : Int) (w : World) (hx : -9223372036854775808 ≤ x) (hx1 : x ≤ 9223372036854775807) (hy : -9223372036854775808 ≤ y) (hy1 : y ≤ 9223372036854775807) :
    Calls Tryd.prog 9 #[.int .i64 x, .int .i64 y] w fun e w' => e = .returned (.bool true) ∧ Below w.heap.size w w' := by
  have K := Lib.hid known_any
  have SX := Lib.hid (fun W => span_any x W hx hx1)
  have SY := Lib.hid (fun W => span_any y W hy hy1)
  clear hx hx1 hy hy1
  go_enter Tryd.func9, Tryd.ntmps9
  go_wp2_with fail
  refine (K.out _).mono ?_
  rintro e w1 ⟨rfl, hb1⟩
  go_wp2_with fail
  refine (SX.out _).mono ?_
  rintro e w2 ⟨hb2, a, b, hs1, rfl⟩
  go_wp2_with fail
  refine (SY.out _).mono ?_
  rintro e w3 ⟨hb3, c, d, hs2, rfl⟩
  have B3 := Lib.hid (bl (bl (bl (br w) hb1) hb2) hb3)
  have hz3 : w.heap.size ≤ w3.heap.size := B3.out.size
  clear hb1 hb2 hb3
  obtain ⟨s, t, u, v, hB⟩ := back_of hs1 hs2
  have HB := Lib.hid hB
  clear hB hs1 hs2 SX SY K
  have C1 := Lib.hid (fun W => addlit a b c d s t 0 W HB.out.add)
  have C2 := Lib.hid (fun W => addlit c d a b s t 0 W HB.out.add')
  have C3 := Lib.hid (fun W => sublit s t c d a b 0 W HB.out.sub)
  have C4 := Lib.hid (fun W => mullit a b c d u v 0 W HB.out.mul)
  have C5 := Lib.hid (fun W => mullit c d a b u v 0 W HB.out.mul')
  have C6 := Lib.hid (fun W => divlit u v c d a b 0 W HB.out.div)
  clear HB
  go_wp2_with fail
  refine (C1.out _).mono ?_
  rintro e w4 ⟨rfl, hb4⟩
  have X4 := Lib.hid (((Own2.made w3 a b 23).later (ba (br _) (.cells #[.int .i64 c, .int .i64 d] 23))).later hb4)
  have Y4 := Lib.hid ((Own2.made (w3.alloc (.cells #[.int .i64 a, .int .i64 b] 23)) c d 23).later hb4)
  simp only [World.size_alloc] at Y4
  have hz4 : w3.heap.size + 1 < w4.heap.size := by have := hb4.size; simp at this; omega
  have hz4' : w3.heap.size < w4.heap.size := by omega
  have B4 := Lib.hid (bl (ba (ba B3.out (.cells #[.int .i64 a, .int .i64 b] 23)) (.cells #[.int .i64 c, .int .i64 d] 23)) hb4)
  clear hb4 B3
  obtain ⟨_, x0, x1, _, _⟩ := X4.out
  obtain ⟨_, y0, y1, _, _⟩ := Y4.out
  go_wp2_with fail
  refine (C2.out _).mono ?_
  rintro e w5 ⟨rfl, hb5⟩
  have X5 := Lib.hid ((X4.out.later (ba (br _) (.cells #[.int .i64 s, .int .i64 t] 23))).later hb5)
  have Y5 := Lib.hid ((Y4.out.later (ba (br _) (.cells #[.int .i64 s, .int .i64 t] 23))).later hb5)
  have S5 := Lib.hid ((Own2.made w4 s t 23).later hb5)
  have hz5 : w4.heap.size < w5.heap.size := by have := hb5.size; simp at this; omega
  have hz5a : w3.heap.size < w5.heap.size := by omega
  have hz5b : w3.heap.size + 1 < w5.heap.size := by omega
  have B5 := Lib.hid (bl (ba B4.out (.cells #[.int .i64 s, .int .i64 t] 23)) hb5)
  clear hb5 B4 X4 Y4 x0 x1 y0 y1
  obtain ⟨_, x0, x1, _, _⟩ := X5.out
  obtain ⟨_, y0, y1, _, _⟩ := Y5.out
  obtain ⟨_, s0, s1, _, _⟩ := S5.out
  go_wp2_with fail
  refine (C3.out _).mono ?_
  rintro e w6 ⟨rfl, hb6⟩
  have hz6 : w5.heap.size < w6.heap.size := by have := hb6.size; simp at this; omega
  have F6 := Lib.hid (show Five w (w6.alloc (.cells #[.int .i64 a, .int .i64 b] 23)) w3.heap.size (w3.heap.size + 1) w4.heap.size w5.heap.size w6.heap.size a b c d (s, t) (s, t) (a, b) from
    ⟨((X5.out.later (ba (br _) _)).later hb6).later (ba (br _) _), ((Y5.out.later (ba (br _) _)).later hb6).later (ba (br _) _), ((S5.out.later (ba (br _) _)).later hb6).later (ba (br _) _),
      ((Own2.made w5 s t 23).later hb6).later (ba (br _) _), Own2.made w6 a b 23, by omega, by omega, by omega, by omega, by omega, by omega, by omega, by omega, by omega, by omega, by omega, by omega, ba (bl (ba B5.out _) hb6) _⟩)
  have T6 := Lib.hid ((Own2.made w5 s t 23).later hb6)
  have S6 := Lib.hid ((S5.out.later (ba (br _) (.cells #[.int .i64 s, .int .i64 t] 23))).later hb6)
  have X6 := Lib.hid ((X5.out.later (ba (br _) (.cells #[.int .i64 s, .int .i64 t] 23))).later hb6)
  have Y6 := Lib.hid ((Y5.out.later (ba (br _) (.cells #[.int .i64 s, .int .i64 t] 23))).later hb6)
  have hz6a : w3.heap.size < w6.heap.size := by omega
  have hz6b : w3.heap.size + 1 < w6.heap.size := by omega
  have hz6c : w4.heap.size < w6.heap.size := by omega
  clear hb6 B5 X5 Y5 S5 x0 x1 y0 y1 s0 s1
  obtain ⟨_, x0, x1, _, _⟩ := X6.out
  obtain ⟨_, y0, y1, _, _⟩ := Y6.out
  obtain ⟨_, s0, s1, _, _⟩ := S6.out
  obtain ⟨_, t0, t1, _, _⟩ := T6.out
  go_wp2_with fail
  refine (C4.out _).mono ?_
  rintro e w7 ⟨rfl, hb7⟩
  have F7 := Lib.hid (F6.out.call hb7)
  clear x0 x1 y0 y1 s0 s1 t0 t1 X6 Y6 S6 T6 hb7 F6 hz3 hz4 hz4' hz5 hz5a hz5b hz6 hz6a hz6b hz6c
  obtain ⟨⟨_, x0, x1, _, _⟩, ⟨_, y0, y1, _, _⟩, ⟨_, s0, s1, s2, s3⟩, ⟨_, t0, t1, t2, t3⟩, ⟨_, u0, u1, u2, u3⟩, n1, n2, n3, n4, n5, n6, n7, n8, n9, _, _, _, _⟩ := F7.out
  go_wp2_with fail
  refine (C5.out _).mono ?_
  rintro e w8 ⟨rfl, hb8⟩
  have F8 := Lib.hid (F7.out.setS.call hb8)
  clear x0 x1 y0 y1 s0 s1 s2 s3 t0 t1 t2 t3 u0 u1 u2 u3 hb8 F7
  obtain ⟨⟨_, x0, x1, _, _⟩, ⟨_, y0, y1, _, _⟩, ⟨_, s0, s1, s2, s3⟩, ⟨_, t0, t1, t2, t3⟩, ⟨_, u0, u1, u2, u3⟩, _, _, _, _, _, _, _, _, _, _, _, _, _⟩ := F8.out
  go_wp2_with fail
  refine (C6.out _).mono ?_
  rintro e w9 ⟨rfl, hb9⟩
  have F9 := Lib.hid (F8.out.setT.call hb9)
  have Fz := Lib.hid (F9.out.setU (n := a) (m := b)).bel
  clear x0 x1 y0 y1 s0 s1 s2 s3 t0 t1 t2 t3 u0 u1 u2 u3 hb9 F8
  obtain ⟨⟨_, x0, x1, _, _⟩, ⟨_, y0, y1, _, _⟩, ⟨_, s0, s1, s2, s3⟩, ⟨_, t0, t1, t2, t3⟩, ⟨_, u0, u1, u2, u3⟩, _, _, _, _, _, _, _, _, _, _, _, _, _⟩ := F9.out
  go_wp2_with fail
  go_ret
  exact ⟨rfl, Fz.out⟩

end Go.Proofs.YtjgkliiofechfaaDoor
